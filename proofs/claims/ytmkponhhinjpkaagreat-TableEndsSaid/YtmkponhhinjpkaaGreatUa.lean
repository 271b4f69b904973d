/- The document's table: Right, Decides, May, Among. -/
import Derived.Test.YtmkponhhinjpkaaGreatTk
import Derived.Test.YtmkponhhinjpkaaGreatTl
namespace Go.Proofs.YtmkponhhinjpkaaGreat.Table
open Go.RowKit Fifo Go.Proofs.YtmkponhhinjpkaaGreat.Access
open Go.Proofs.YtmkponhhinjpkaaGreat.Region (Eight eight_new)
set_option linter.unusedVariables false

set_option maxRecDepth 100000 in
set_option maxHeartbeats 2000000 in
theorem tRight_core (a : Option Addr) (n cap : Nat) (d : List Rg) (w : World) (hn : n ≤ 1000000) (h : RowG w a n d) :
    Calls Tryz.prog 27 #[.slice a n cap] w fun e w' => e = .returned (.bool (tabB d)) ∧ Below w.heap.size w w' := by
  have Hr := Lib.hid h
  clear h
  by_cases h32 : 32 < n
  · have d1 : decide ((32 : Int) < (n : Int)) = true := decide_eq_true (by omega)
    go_enter Tryz.func27, Tryz.ntmps27
    go_wp2_with fail
    go_ret
    exact ⟨ret_bool (tab_no_long (by rw [Hr.out.1]; exact h32)).symm, Below.refl _ _⟩
  · have d1 : decide ((32 : Int) < (n : Int)) = false := decide_eq_false (by omega)
    go_enter Tryz.func27, Tryz.ntmps27
    go_wp2_with fail
    go_loopw [3] (fun i wr => ∃ k : Nat, k ≤ n ∧ i = .int .i64 k ∧ Hid (∀ i, i < k → d[i]!.right = true ∧ ∀ j, j < i → clash d[i]! d[j]! = false) ∧ Below w.heap.size w wr) (fun i _ => n - (intOf i).toNat)
    case atStart => exact ⟨0, Nat.zero_le _, rfl, Lib.hid (fun j hj => by omega), Below.refl _ _⟩
    case round =>
    obtain ⟨k, hk, rfl, hno, hb⟩ := hrel
    obtain ⟨v1, rfl⟩ : ∃ W : World, W = wr := ⟨_, rfl⟩
    have Hb := Lib.hid hb
    have hsz := hb.size
    clear hb
    by_cases hlt : k < n
    · obtain ⟨b, off, rfl, ce⟩ := Hr.out.2 k hlt
      have ce := ce.keep Hb.out
      obtain ⟨x, hx⟩ : ∃ x, d[k]! = x := ⟨_, rfl⟩
      rw [hx] at ce
      have Hx := Lib.hid hx
      clear hx
      obtain ⟨p, V, G, U, re, we, L, ke⟩ := x
      obtain ⟨e0, e1, e2, e3, e4, e5, e6, e7⟩ := ce
      obtain ⟨r, hr⟩ : ∃ r, (Rg.mk p V G U re we L ke).right = r := ⟨_, rfl⟩
      have HR := Lib.hid (show Region.regB p V G U re we L ke = r from hr)
      have i1 : (0 : Int) ≤ (k : Int) := by omega
      have i2 : (k : Int) < (n : Int) := by omega
      clear hr
      go_wp2_with fail
      refine (Region.rRight_any p V G U re we L ke r _ HR.out).mono ?_
      rintro e w2 ⟨rfl, hb2⟩
      have Hb2 := Lib.hid (Hb.out.trans (hb2.mono hsz))
      have hs2 := Hb2.out.size
      clear hb2 e0 e1 e2 e3 e4 e5 e6 e7
      cases r
      · go_wp2_with fail
        go_ret
        exact ⟨ret_bool (tab_no_right (i := k) (by rw [Hr.out.1]; exact hlt) (by rw [Hx.out]; exact HR.out)).symm, Hb2.out⟩
      · go_wp2_with fail
        go_loopw [4] (fun i wr => ∃ j : Nat, j ≤ k ∧ i = .int .i64 j ∧ Hid (∀ i, i < j → clash d[k]! d[i]! = false) ∧ Below w.heap.size w wr) (fun i _ => k - (intOf i).toNat)
        case atStart => exact ⟨0, Nat.zero_le _, rfl, Lib.hid (fun j hj => by omega), Hb2.out⟩
        case round =>
        obtain ⟨j, hj, rfl, hnj, hb⟩ := hrel
        have Hb3 := Lib.hid hb
        have hs3 := hb.size
        clear hb
        by_cases hlj : j < k
        · have j1 : (0 : Int) ≤ (j : Int) := by omega
          have j2 : (j : Int) < (n : Int) := by omega
          obtain ⟨b1, off1, hbo1, ce⟩ := Hr.out.2 k hlt
          obtain ⟨b2, off2, hbo2, cf⟩ := Hr.out.2 j (by omega)
          obtain ⟨rfl, rfl⟩ : b = b1 ∧ off = off1 := by simpa using hbo1
          obtain ⟨rfl, rfl⟩ : b = b2 ∧ off = off2 := by simpa using hbo2
          clear hbo1 hbo2
          have ce := ce.keep Hb3.out
          have cf := cf.keep Hb3.out
          rw [Hx.out] at ce
          obtain ⟨y, hy⟩ : ∃ y, d[j]! = y := ⟨_, rfl⟩
          rw [hy] at cf
          have Hy := Lib.hid hy
          clear hy
          obtain ⟨o, W, F, T, rd, wt, K, lk⟩ := y
          obtain ⟨c, hc⟩ : ∃ c, clash ⟨p, V, G, U, re, we, L, ke⟩ ⟨o, W, F, T, rd, wt, K, lk⟩ = c := ⟨_, rfl⟩
          have HC := Lib.hid (show Region.clashV p V G U L o W F T K = c from hc)
          have HCd := Lib.hid hc
          clear hc
          obtain ⟨e0, e1, e2, e3, e4, e5, e6, e7⟩ := ce
          obtain ⟨f0, f1, f2, f3, f4, f5, f6, f7⟩ := cf
          go_wp2_with fail
          refine wp_region_ext (by kernel_rfl) (by kernel_rfl) ?_
          intro Y hY
          obtain rfl := hY.out
          clear hY
          have x0 := ext_cell e0
          have x1 := ext_cell e1
          have x2 := ext_cell e2
          have x3 := ext_cell e3
          have x4 := ext_cell e4
          have x5 := ext_cell e5
          have x6 := ext_cell e6
          have x7 := ext_cell e7
          have y0 := ext_cell f0
          have y1 := ext_cell f1
          have y2 := ext_cell f2
          have y3 := ext_cell f3
          have y4 := ext_cell f4
          have y5 := ext_cell f5
          have y6 := ext_cell f6
          have y7 := ext_cell f7
          clear e0 e1 e2 e3 e4 e5 e6 e7 f0 f1 f2 f3 f4 f5 f6 f7
          repeat (go_big_quiet_step ((first
              | (go_at_call 51; with_reducible exact ext_of (Region.rClash_any p V G U re we L ke o W F T rd wt K lk c _ HC.out))
              | fail)))
          refine wpQuiet_nil ?_
          intro w9 hw9
          have h9 : Below Y.heap.size Y w9 := by obtain ⟨p9, rfl⟩ := hw9; exact ext_below Y p9
          clear hw9
          have H9 := Lib.hid (Hb3.out.trans (h9.mono hs3))
          clear h9 x0 x1 x2 x3 x4 x5 x6 x7 y0 y1 y2 y3 y4 y5 y6 y7
          cases c
          · go_wp2_with fail
            refine ⟨⟨j + 1, by omega, by go_num, Lib.hid (fun i hi => ?_), H9.out⟩, by simp [intOf]; omega⟩
            by_cases e : i = j
            · subst e; rw [Hx.out, Hy.out]; exact HCd.out
            · exact hnj.out i (by omega)
          · go_wp2_with fail
            go_ret
            exact ⟨ret_bool (tab_no_clash (i := k) (by rw [Hr.out.1]; exact hlt) hlj (by rw [Hx.out, Hy.out]; exact HCd.out)).symm, H9.out⟩
        · obtain rfl : j = k := by omega
          go_wp2_with fail
          refine ⟨⟨j + 1, by omega, by go_num, Lib.hid (fun i hi => ?_), Hb3.out⟩, by simp [intOf]; omega⟩
          by_cases e : i = j
          · subst e; exact ⟨by rw [Hx.out]; exact HR.out, hnj.out⟩
          · exact hno.out i (by omega)
    · obtain rfl : k = n := by omega
      go_wp2_with fail
      go_ret
      exact ⟨ret_bool (tab_yes (by rw [Hr.out.1]; omega) (fun i hi => hno.out i (by rw [Hr.out.1] at hi; exact hi))).symm, Hb.out⟩
theorem tRight_any (a : Option Addr) (n cap : Nat) (d : List Rg) (b : Bool) (w : World) (hn : n ≤ 1000000) (h : RowG w a n d) (hb : tabB d = b) :
    Calls Tryz.prog 27 #[.slice a n cap] w fun e w' => e = .returned (.bool b) ∧ Below w.heap.size w w' := by
  subst hb; exact tRight_core a n cap d w hn h

/-- How the document's two variables tell which region decides. -/
def DecRel (o : Option Nat) (b s : Value) : Prop := b = .int .i64 ((o.getD 0 : Nat) : Int) ∧ s = .bool o.isSome
set_option maxRecDepth 100000 in
set_option maxHeartbeats 4000000 in
theorem tDecides_any (a : Option Addr) (n cap : Nat) (d : List Rg) (W2 : Int) (r2 : Bool) (A S D : Int) (i : Nat) (ob : Bool) (w : World) (hn : n ≤ 1000000) (hA : 0 ≤ A) (hA' : A < 4294967296) (hD : 0 ≤ D) (hD' : D < 4294967296) (h : RowG w a n d)
    (hi : (dec d ⟨W2, r2, A, S, D⟩).getD 0 = i) (hob : (dec d ⟨W2, r2, A, S, D⟩).isSome = ob) :
    Calls Tryz.prog 25 #[.slice a n cap, acc W2 r2 A S D] w fun e w' => e = .returned (.tuple #[.int .i64 (i : Nat), .bool ob]) ∧ Below w.heap.size w w' := by
  obtain ⟨g, hg⟩ : ∃ g, w.heap.size = g := ⟨_, rfl⟩
  have h5 := five_new w W2 r2 A S D 25
  rw [hg] at h5
  have H5 := Lib.hid h5
  have B0 := Lib.hid ((Below.refl w.heap.size w).alloc (Nat.le_refl _) (.cells #[.int .i64 W2, .bool r2, .int .u32 A, .int .i64 S, .int .u32 D] 25))
  have Hr := Lib.hid h
  obtain ⟨tb, htb⟩ : ∃ tb, tabB d = tb := ⟨_, rfl⟩
  have Htb := Lib.hid htb
  have Hi := Lib.hid hi
  have Hob := Lib.hid hob
  clear h h5 htb hi hob
  go_enter Tryz.func25, Tryz.ntmps25
  go_wp2_with fail
  refine (tRight_any a n cap d tb _ hn (Hr.out.keep B0.out) Htb.out).mono ?_
  rintro e w1 ⟨rfl, hb1⟩
  have B1 := Lib.hid (B0.out.trans (hb1.mono B0.out.size))
  have F1 := Lib.hid (H5.out.keep hb1)
  clear hb1 B0 H5 hg
  cases tb with
  | false =>
    go_wp2_with fail
    go_ret2
    have hd : dec d ⟨W2, r2, A, S, D⟩ = none := by unfold dec; rw [if_neg (by rw [Htb.out]; simp)]
    have e1 := Hi.out
    have e2 := Hob.out
    rw [hd] at e1 e2
    subst e1; subst e2
    exact ⟨rfl, B1.out⟩
  | true =>
    go_wp2_with fail
    go_loopw [6, 7, 8] (fun b s i wr => ∃ k : Nat, k ≤ n ∧ i = .int .i64 k ∧ DecRel (decTo d ⟨W2, r2, A, S, D⟩ k) b s ∧ Five wr g W2 r2 A S D ∧ Below w.heap.size w wr) (fun _ _ i _ => n - (intOf i).toNat)
    case atStart => exact ⟨0, Nat.zero_le _, rfl, ⟨rfl, rfl⟩, F1.out, B1.out⟩
    case round =>
    obtain ⟨k, hk, rfl, ⟨rfl, rfl⟩, hf, hb⟩ := hrel
    have Hf := Lib.hid hf
    have Hb := Lib.hid hb
    have hsz := hb.size
    clear hf hb
    by_cases hlt : k < n
    · obtain ⟨b, off, rfl, ce⟩ := Hr.out.2 k hlt
      have ce := ce.keep Hb.out
      obtain ⟨y, hy⟩ : ∃ y, d[k]! = y := ⟨_, rfl⟩
      rw [hy] at ce
      have Hy := Lib.hid hy
      clear hy
      obtain ⟨o, V, F, T, rd, wt, K, lk⟩ := y
      obtain ⟨hq, hhq⟩ : ∃ hq, (Rg.mk o V F T rd wt K lk).has ⟨W2, r2, A, S, D⟩ = hq := ⟨_, rfl⟩
      have Hhq := Lib.hid (show Region.hasV o V F T K W2 r2 A S D = hq from hhq)
      have HhqD := Lib.hid hhq
      have i1 : (0 : Int) ≤ (k : Int) := by omega
      have i2 : (k : Int) < (n : Int) := by omega
      clear hhq
      obtain ⟨od, hod⟩ : ∃ od, decTo d ⟨W2, r2, A, S, D⟩ k = od := ⟨_, rfl⟩
      have Hod := Lib.hid hod
      rw [hod]
      clear hod
      obtain ⟨e0, e1, e2, e3, e4, e5, e6, e7⟩ := ce
      cases od with
      | none =>
        simp only [Option.getD_none, Option.isSome_none]
        go_wp2_with fail
        refine wp_region_ext (by kernel_rfl) (by kernel_rfl) ?_
        intro Y hY
        obtain rfl := hY.out
        clear hY
        have x0 := ext_cell e0
        have x1 := ext_cell e1
        have x2 := ext_cell e2
        have x3 := ext_cell e3
        have x4 := ext_cell e4
        have x5 := ext_cell e5
        have x6 := ext_cell e6
        have x7 := ext_cell e7
        have q0 := ext_cell Hf.out.c0
        have q1 := ext_cell Hf.out.c1
        have q2 := ext_cell Hf.out.c2
        have q3 := ext_cell Hf.out.c3
        have q4 := ext_cell Hf.out.c4
        clear e0 e1 e2 e3 e4 e5 e6 e7
        cases hq
        · repeat (go_big_quiet_step ((first
              | (go_at_call 48; with_reducible exact ext_of (Region.rHas_any o V F T rd wt K lk W2 r2 A S D _ _ hA hA' hD hD' Hhq.out))
              | fail)))
          refine wpQuiet_nil ?_
          intro w9 hw9
          have h9 : Below Y.heap.size Y w9 := by obtain ⟨p9, rfl⟩ := hw9; exact ext_below Y p9
          clear hw9
          have H9 := Lib.hid (Hb.out.trans (h9.mono hsz))
          have F9 := Lib.hid (Hf.out.keep h9)
          clear h9 x0 x1 x2 x3 x4 x5 x6 x7 q0 q1 q2 q3 q4
          go_wp2_with fail
          refine ⟨⟨k + 1, by omega, by go_num, ?_, F9.out, H9.out⟩, by simp [intOf]; omega⟩
          rw [dec_no (by rw [Hod.out]; show d[k]!.has _ = false; rw [Hy.out]; exact HhqD.out), Hod.out]
          exact ⟨rfl, rfl⟩
        · repeat (go_big_quiet_step ((first
              | (go_at_call 48; with_reducible exact ext_of (Region.rHas_any o V F T rd wt K lk W2 r2 A S D _ _ hA hA' hD hD' Hhq.out))
              | fail)))
          refine wpQuiet_nil ?_
          intro w9 hw9
          have h9 : Below Y.heap.size Y w9 := by obtain ⟨p9, rfl⟩ := hw9; exact ext_below Y p9
          clear hw9
          have H9 := Lib.hid (Hb.out.trans (h9.mono hsz))
          have F9 := Lib.hid (Hf.out.keep h9)
          clear h9 x0 x1 x2 x3 x4 x5 x6 x7 q0 q1 q2 q3 q4
          go_wp2_with fail
          refine ⟨⟨k + 1, by omega, by go_num, ?_, F9.out, H9.out⟩, by simp [intOf]; omega⟩
          rw [dec_yes (by rw [Hod.out]; show d[k]!.has _ = true; rw [Hy.out]; exact HhqD.out)]
          exact ⟨rfl, rfl⟩
      | some bb =>
        have hbk : bb < k := (dec_some Hod.out).1
        obtain ⟨b2, off2, hbo2, cf⟩ := Hr.out.2 bb (by omega)
        obtain ⟨rfl, rfl⟩ : b = b2 ∧ off = off2 := by simpa using hbo2
        clear hbo2
        have cf := cf.keep Hb.out
        obtain ⟨z, hz⟩ : ∃ z, d[bb]! = z := ⟨_, rfl⟩
        rw [hz] at cf
        have Hz := Lib.hid hz
        clear hz
        obtain ⟨zo, zV, zF, zT, zr, zw, zK, zl⟩ := z
        obtain ⟨f0, f1, f2, f3, f4, f5, f6, f7⟩ := cf
        have j1 : (0 : Int) ≤ (bb : Int) := by omega
        have j2 : (bb : Int) < (n : Int) := by omega
        obtain ⟨gt, hgt⟩ : ∃ gt, decide (zK < K) = gt := ⟨_, rfl⟩
        have Hgt := Lib.hid hgt
        simp only [Option.getD_some, Option.isSome_some]
        go_wp2_with fail
        refine wp_region_ext (by kernel_rfl) (by kernel_rfl) ?_
        intro Y hY
        obtain rfl := hY.out
        clear hY
        have x0 := ext_cell e0
        have x1 := ext_cell e1
        have x2 := ext_cell e2
        have x3 := ext_cell e3
        have x4 := ext_cell e4
        have x5 := ext_cell e5
        have x6 := ext_cell e6
        have x7 := ext_cell e7
        have y0 := ext_cell f0
        have y1 := ext_cell f1
        have y2 := ext_cell f2
        have y3 := ext_cell f3
        have y4 := ext_cell f4
        have y5 := ext_cell f5
        have y6 := ext_cell f6
        have y7 := ext_cell f7
        have q0 := ext_cell Hf.out.c0
        have q1 := ext_cell Hf.out.c1
        have q2 := ext_cell Hf.out.c2
        have q3 := ext_cell Hf.out.c3
        have q4 := ext_cell Hf.out.c4
        clear e0 e1 e2 e3 e4 e5 e6 e7 f0 f1 f2 f3 f4 f5 f6 f7
        cases hq
        · repeat (go_big_quiet_step ((first
              | (go_at_call 48; with_reducible exact ext_of (Region.rHas_any o V F T rd wt K lk W2 r2 A S D _ _ hA hA' hD hD' Hhq.out))
              | fail)))
          refine wpQuiet_nil ?_
          intro w9 hw9
          have h9 : Below Y.heap.size Y w9 := by obtain ⟨p9, rfl⟩ := hw9; exact ext_below Y p9
          clear hw9
          have H9 := Lib.hid (Hb.out.trans (h9.mono hsz))
          have F9 := Lib.hid (Hf.out.keep h9)
          clear h9 hgt x0 x1 x2 x3 x4 x5 x6 x7 y0 y1 y2 y3 y4 y5 y6 y7 q0 q1 q2 q3 q4
          go_wp2_with fail
          refine ⟨⟨k + 1, by omega, by go_num, ?_, F9.out, H9.out⟩, by simp [intOf]; omega⟩
          rw [dec_no (by rw [Hod.out]; show (d[k]!.has _ && _) = false; rw [Hy.out, HhqD.out]; rfl), Hod.out]
          exact ⟨rfl, rfl⟩
        · cases gt
          · repeat (go_big_quiet_step ((first
                | (go_at_call 48; with_reducible exact ext_of (Region.rHas_any o V F T rd wt K lk W2 r2 A S D _ _ hA hA' hD hD' Hhq.out))
                | fail)))
            refine wpQuiet_nil ?_
            intro w9 hw9
            have h9 : Below Y.heap.size Y w9 := by obtain ⟨p9, rfl⟩ := hw9; exact ext_below Y p9
            clear hw9
            have H9 := Lib.hid (Hb.out.trans (h9.mono hsz))
            have F9 := Lib.hid (Hf.out.keep h9)
            clear h9 hgt x0 x1 x2 x3 x4 x5 x6 x7 y0 y1 y2 y3 y4 y5 y6 y7 q0 q1 q2 q3 q4
            go_wp2_with fail
            refine ⟨⟨k + 1, by omega, by go_num, ?_, F9.out, H9.out⟩, by simp [intOf]; omega⟩
            rw [dec_no (by rw [Hod.out]; show (d[k]!.has _ && decide (d[bb]!.K < d[k]!.K)) = false; rw [Hy.out, Hz.out, HhqD.out]; exact Hgt.out), Hod.out]
            exact ⟨rfl, rfl⟩
          · repeat (go_big_quiet_step ((first
                | (go_at_call 48; with_reducible exact ext_of (Region.rHas_any o V F T rd wt K lk W2 r2 A S D _ _ hA hA' hD hD' Hhq.out))
                | fail)))
            refine wpQuiet_nil ?_
            intro w9 hw9
            have h9 : Below Y.heap.size Y w9 := by obtain ⟨p9, rfl⟩ := hw9; exact ext_below Y p9
            clear hw9
            have H9 := Lib.hid (Hb.out.trans (h9.mono hsz))
            have F9 := Lib.hid (Hf.out.keep h9)
            clear h9 hgt x0 x1 x2 x3 x4 x5 x6 x7 y0 y1 y2 y3 y4 y5 y6 y7 q0 q1 q2 q3 q4
            go_wp2_with fail
            refine ⟨⟨k + 1, by omega, by go_num, ?_, F9.out, H9.out⟩, by simp [intOf]; omega⟩
            rw [dec_yes (by rw [Hod.out]; show (d[k]!.has _ && decide (d[bb]!.K < d[k]!.K)) = true; rw [Hy.out, Hz.out, HhqD.out]; exact Hgt.out)]
            exact ⟨rfl, rfl⟩
    · obtain rfl : k = n := by omega
      go_wp2_with fail
      go_ret2
      have hd : decTo d ⟨W2, r2, A, S, D⟩ k = dec d ⟨W2, r2, A, S, D⟩ := by unfold dec; rw [if_pos Htb.out, Hr.out.1]
      rw [hd, Hi.out, Hob.out]
      exact ⟨rfl, Hb.out⟩

set_option maxRecDepth 100000 in
set_option maxHeartbeats 2000000 in
theorem tMay_any (a : Option Addr) (n cap : Nat) (d : List Rg) (W2 : Int) (r2 : Bool) (A S D : Int) (mb : Bool) (w : World) (hn : n ≤ 1000000) (hA : 0 ≤ A) (hA' : A < 4294967296) (hD : 0 ≤ D) (hD' : D < 4294967296) (h : RowG w a n d)
    (hm : may d ⟨W2, r2, A, S, D⟩ = mb) :
    Calls Tryz.prog 28 #[.slice a n cap, acc W2 r2 A S D] w fun e w' => e = .returned (.bool mb) ∧ Below w.heap.size w w' := by
  obtain ⟨g, hg⟩ : ∃ g, w.heap.size = g := ⟨_, rfl⟩
  have h5 := five_new w W2 r2 A S D 25
  rw [hg] at h5
  have H5 := Lib.hid h5
  have B0 := Lib.hid ((Below.refl w.heap.size w).alloc (Nat.le_refl _) (.cells #[.int .i64 W2, .bool r2, .int .u32 A, .int .i64 S, .int .u32 D] 25))
  have Hr := Lib.hid h
  have Hm := Lib.hid hm
  clear h hm
  obtain ⟨od, hod⟩ : ∃ od, dec d ⟨W2, r2, A, S, D⟩ = od := ⟨_, rfl⟩
  have Hod := Lib.hid hod
  clear hod
  obtain ⟨q0, q1, q2, q3, q4⟩ := h5
  go_enter Tryz.func28, Tryz.ntmps28
  go_wp2_with fail
  cases od with
  | none =>
    refine (tDecides_any a n cap d W2 r2 A S D 0 false _ hn hA hA' hD hD' (Hr.out.keep B0.out) (by rw [Hod.out]; rfl) (by rw [Hod.out]; rfl)).mono ?_
    rintro e w1 ⟨rfl, hb1⟩
    have B1 := Lib.hid (B0.out.trans (hb1.mono B0.out.size))
    clear hb1 B0 H5 hg q0 q1 q2 q3 q4
    go_wp2_with fail
    refine wp_region_ext (by kernel_rfl) (by kernel_rfl) ?_
    intro Y hY
    obtain rfl := hY.out
    clear hY
    repeat (go_big_quiet_step ((fail)))
    refine wpQuiet_nil ?_
    intro w9 hw9
    have h9 : Below Y.heap.size Y w9 := by obtain ⟨p9, rfl⟩ := hw9; exact ext_below Y p9
    clear hw9
    have H9 := Lib.hid (B1.out.trans (h9.mono B1.out.size))
    clear h9
    go_wp2_with fail
    go_ret
    have e1 := Hm.out
    unfold may at e1
    rw [Hod.out] at e1
    exact ⟨ret_bool e1, H9.out⟩
  | some bi =>
    refine (tDecides_any a n cap d W2 r2 A S D bi true _ hn hA hA' hD hD' (Hr.out.keep B0.out) (by rw [Hod.out]; rfl) (by rw [Hod.out]; rfl)).mono ?_
    rintro e w1 ⟨rfl, hb1⟩
    have B1 := Lib.hid (B0.out.trans (hb1.mono B0.out.size))
    have F1 := Lib.hid (H5.out.keep hb1)
    clear hb1 B0 H5 hg q0 q1 q2 q3 q4
    have hbn : bi < n := by
      have := Hod.out
      unfold dec at this
      split at this
      · rw [← Hr.out.1]; exact (dec_some this).1
      · cases this
    have i1 : (0 : Int) ≤ (bi : Int) := by omega
    have i2 : (bi : Int) < (n : Int) := by omega
    obtain ⟨b, off, rfl, ce⟩ := Hr.out.2 bi hbn
    have ce := ce.keep B1.out
    have hl : may d ⟨W2, r2, A, S, D⟩ = d[bi]!.lets ⟨W2, r2, A, S, D⟩ := by unfold may; rw [Hod.out]; rfl
    rw [Hm.out] at hl
    obtain ⟨z, hz⟩ : ∃ z, d[bi]! = z := ⟨_, rfl⟩
    rw [hz] at ce hl
    clear hz
    obtain ⟨o, V, F, T, rd, wt, K, lk⟩ := z
    have HL := Lib.hid (show Region.letsV o V F T rd wt K W2 r2 A S D = mb from hl.symm)
    clear hl
    obtain ⟨e0, e1, e2, e3, e4, e5, e6, e7⟩ := ce
    go_wp2_with fail
    refine wp_region_ext (by kernel_rfl) (by kernel_rfl) ?_
    intro Y hY
    obtain rfl := hY.out
    clear hY
    have x0 := ext_cell e0
    have x1 := ext_cell e1
    have x2 := ext_cell e2
    have x3 := ext_cell e3
    have x4 := ext_cell e4
    have x5 := ext_cell e5
    have x6 := ext_cell e6
    have x7 := ext_cell e7
    have q0 := ext_cell F1.out.c0
    have q1 := ext_cell F1.out.c1
    have q2 := ext_cell F1.out.c2
    have q3 := ext_cell F1.out.c3
    have q4 := ext_cell F1.out.c4
    clear e0 e1 e2 e3 e4 e5 e6 e7
    repeat (go_big_quiet_step ((first
        | (go_at_call 52; with_reducible exact ext_of (Region.rLets_any o V F T rd wt K lk W2 r2 A S D _ _ hA hA' hD hD' HL.out))
        | fail)))
    refine wpQuiet_nil ?_
    intro w9 hw9
    have h9 : Below Y.heap.size Y w9 := by obtain ⟨p9, rfl⟩ := hw9; exact ext_below Y p9
    clear hw9
    have H9 := Lib.hid (B1.out.trans (h9.mono B1.out.size))
    clear h9 x0 x1 x2 x3 x4 x5 x6 x7 q0 q1 q2 q3 q4
    go_wp2_with fail
    go_ret
    exact ⟨rfl, H9.out⟩

set_option maxRecDepth 100000 in
set_option maxHeartbeats 2000000 in
theorem tAmong_any (a : Option Addr) (n cap : Nat) (d : List Rg) (W2 : Int) (r2 : Bool) (A S D : Int) (mb : Bool) (w : World) (hn : n ≤ 1000000) (hA : 0 ≤ A) (hA' : A < 4294967296) (hD : 0 ≤ D) (hD' : D < 4294967296) (h : RowG w a n d) (hm : among d ⟨W2, r2, A, S, D⟩ = mb) :
    Calls Tryz.prog 30 #[.slice a n cap, acc W2 r2 A S D] w fun e w' => e = .returned (.bool mb) ∧ Below w.heap.size w w' := by
  obtain ⟨g, hg⟩ : ∃ g, w.heap.size = g := ⟨_, rfl⟩
  have h5 := five_new w W2 r2 A S D 25
  rw [hg] at h5
  have H5 := Lib.hid h5
  have B0 := Lib.hid ((Below.refl w.heap.size w).alloc (Nat.le_refl _) (.cells #[.int .i64 W2, .bool r2, .int .u32 A, .int .i64 S, .int .u32 D] 25))
  have Hr := Lib.hid h
  have Hm := Lib.hid hm
  clear h hm h5
  go_enter Tryz.func30, Tryz.ntmps30
  go_wp2_with fail
  go_loopw [5] (fun i wr => ∃ k : Nat, k ≤ n ∧ i = .int .i64 k ∧ Hid (∀ j, j < k → d[j]!.has ⟨W2, r2, A, S, D⟩ = false) ∧ Five wr g W2 r2 A S D ∧ Below w.heap.size w wr) (fun i _ => n - (intOf i).toNat)
  case atStart => exact ⟨0, Nat.zero_le _, rfl, Lib.hid (fun j hj => by omega), H5.out, B0.out⟩
  case round =>
  obtain ⟨k, hk, rfl, hno, hf, hb⟩ := hrel
  have Hf := Lib.hid hf
  have Hb := Lib.hid hb
  have hsz := hb.size
  clear hf hb hg
  by_cases hlt : k < n
  · obtain ⟨b, off, rfl, ce⟩ := Hr.out.2 k hlt
    have CE := Lib.hid ce
    have ce := ce.keep Hb.out
    obtain ⟨y, hy⟩ : ∃ y, d[k]! = y := ⟨_, rfl⟩
    rw [hy] at ce CE
    have Hy := Lib.hid hy
    clear hy
    obtain ⟨o, V, F, T, rd, wt, K, lk⟩ := y
    obtain ⟨hq, hhq⟩ : ∃ hq, (Rg.mk o V F T rd wt K lk).has ⟨W2, r2, A, S, D⟩ = hq := ⟨_, rfl⟩
    have Hhq := Lib.hid (show Region.hasV o V F T K W2 r2 A S D = hq from hhq)
    have HhqD := Lib.hid hhq
    have i1 : (0 : Int) ≤ (k : Int) := by omega
    have i2 : (k : Int) < (n : Int) := by omega
    clear hhq
    obtain ⟨e0, e1, e2, e3, e4, e5, e6, e7⟩ := ce
    go_wp2_with fail
    refine wp_region_ext (by kernel_rfl) (by kernel_rfl) ?_
    intro Y hY
    obtain rfl := hY.out
    clear hY
    have x0 := ext_cell e0
    have x1 := ext_cell e1
    have x2 := ext_cell e2
    have x3 := ext_cell e3
    have x4 := ext_cell e4
    have x5 := ext_cell e5
    have x6 := ext_cell e6
    have x7 := ext_cell e7
    have q0 := ext_cell Hf.out.c0
    have q1 := ext_cell Hf.out.c1
    have q2 := ext_cell Hf.out.c2
    have q3 := ext_cell Hf.out.c3
    have q4 := ext_cell Hf.out.c4
    clear e0 e1 e2 e3 e4 e5 e6 e7
    repeat (go_big_quiet_step ((first
        | (go_at_call 48; with_reducible exact ext_of (Region.rHas_any o V F T rd wt K lk W2 r2 A S D hq _ hA hA' hD hD' Hhq.out))
        | fail)))
    refine wpQuiet_nil ?_
    intro w9 hw9
    have h9 : Below Y.heap.size Y w9 := by obtain ⟨p9, rfl⟩ := hw9; exact ext_below Y p9
    clear hw9
    have H9 := Lib.hid (Hb.out.trans (h9.mono hsz))
    have F9 := Lib.hid (Hf.out.keep h9)
    clear h9 x0 x1 x2 x3 x4 x5 x6 x7 q0 q1 q2 q3 q4
    cases hq
    · go_wp2_with fail
      refine ⟨⟨k + 1, by omega, by go_num, Lib.hid (fun j hj => ?_), F9.out, H9.out⟩, by simp [intOf]; omega⟩
      by_cases e : j = k
      · subst e; rw [Hy.out]; exact HhqD.out
      · exact hno.out j (by omega)
    · have hl := among_yes (ac := ⟨W2, r2, A, S, D⟩) (by rw [Hr.out.1]; exact hlt) (by rw [Hy.out]; exact HhqD.out) hno.out
      rw [Hm.out, Hy.out] at hl
      have HL := Lib.hid (show Region.letsV o V F T rd wt K W2 r2 A S D = mb from hl.symm)
      clear hl
      obtain ⟨e0, e1, e2, e3, e4, e5, e6, e7⟩ := CE.out.keep H9.out
      go_wp2_with fail
      refine wp_region_ext (by kernel_rfl) (by kernel_rfl) ?_
      intro Y hY
      obtain rfl := hY.out
      clear hY
      have x0 := ext_cell e0
      have x1 := ext_cell e1
      have x2 := ext_cell e2
      have x3 := ext_cell e3
      have x4 := ext_cell e4
      have x5 := ext_cell e5
      have x6 := ext_cell e6
      have x7 := ext_cell e7
      have q0 := ext_cell F9.out.c0
      have q1 := ext_cell F9.out.c1
      have q2 := ext_cell F9.out.c2
      have q3 := ext_cell F9.out.c3
      have q4 := ext_cell F9.out.c4
      clear e0 e1 e2 e3 e4 e5 e6 e7
      repeat (go_big_quiet_step ((first
          | (go_at_call 52; with_reducible exact ext_of (Region.rLets_any o V F T rd wt K lk W2 r2 A S D _ _ hA hA' hD hD' HL.out))
          | fail)))
      refine wpQuiet_nil ?_
      intro w9 hw9
      have h9 : Below Y.heap.size Y w9 := by obtain ⟨p9, rfl⟩ := hw9; exact ext_below Y p9
      clear hw9
      have H10 := Lib.hid (H9.out.trans (h9.mono H9.out.size))
      clear h9 x0 x1 x2 x3 x4 x5 x6 x7 q0 q1 q2 q3 q4
      go_wp2_with fail
      go_ret
      exact ⟨rfl, H10.out⟩
  · obtain rfl : k = n := by omega
    go_wp2_with fail
    go_ret
    exact ⟨ret_bool ((among_no (fun j hj => hno.out j (by rw [← Hr.out.1]; exact hj))).symm.trans Hm.out), Hb.out⟩
end Go.Proofs.YtmkponhhinjpkaaGreat.Table
