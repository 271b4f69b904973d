/- The document's windows: Decode, At. -/
import Derived.Test.YtfpammfcchboaaaVc
namespace Go.Proofs.Ytfpammfcchboaaa.Win
open Go.RowKit Go.Maps Fifo Orow Go.Proofs.Ytfpammfcchboaaa.Access
open Go.Proofs.Ytfpammfcchboaaa.Reach (ret_bool Two two_new alloc_keep bcell rMeet_val rIn_val rhas_any rhas_val)
set_option linter.unusedVariables false

theorem ret_dec {a b c d : Int} {p q : Bool} (h : a = b) (g : c = d) (k : p = q) : Ending.returned (.tuple #[.int .i64 a, .int .i64 c, .bool p]) = .returned (.tuple #[.int .i64 b, .int .i64 d, .bool q]) := by rw [h, g, k]
theorem ret_at {a b : Int} {p q : Bool} (h : a = b) (k : p = q) : Ending.returned (.tuple #[.int .i64 a, .bool p]) = .returned (.tuple #[.int .i64 b, .bool q]) := by rw [h, k]
theorem dcd_no {l : List Dv} {a : Ac} (h : (a.right && rowB l) = false) : dcd l a = none := by unfold dcd; rw [if_neg (by rw [h]; simp)]
theorem dcd_is {l : List Dv} {a : Ac} (h1 : a.right = true) (h2 : rowB l = true) : dcd l a = fst (fun d => d.holds a.A (a.A + a.S - 1)) l := by unfold dcd; rw [if_pos (by rw [h1, h2]; rfl)]

set_option maxRecDepth 100000 in
set_option maxHeartbeats 4000000 in
theorem wDecode_core (a : Option Addr) (n cap : Nat) (l : List Dv) (W2 : Int) (r2 : Bool) (A S D : Int) (w : World) (hn : n ≤ 1000000) (hA : 0 ≤ A) (hA' : A < 4294967296) (hD : 0 ≤ D) (hD' : D < 4294967296) (h : RowV w a n l) :
    Calls Try.prog 27 #[.slice a n cap, acc W2 r2 A S D] w fun e w' => e = .returned (.tuple #[.int .i64 (((dcd l ⟨W2, r2, A, S, D⟩).getD 0 : Nat) : Int), .int .i64 (offV l ⟨W2, r2, A, S, D⟩ (dcd l ⟨W2, r2, A, S, D⟩)), .bool (dcd l ⟨W2, r2, A, S, D⟩).isSome]) ∧ Below w.heap.size w w' := by
  obtain ⟨g, hg⟩ : ∃ g, w.heap.size = g := ⟨_, rfl⟩
  have h5 := five_new w W2 r2 A S D 28
  rw [hg] at h5
  have H5 := Lib.hid h5
  have B0 := Lib.hid ((Below.refl w.heap.size w).alloc (Nat.le_refl _) (.cells #[.int .i64 W2, .bool r2, .int .u32 A, .int .i64 S, .int .u32 D] 28))
  have Hr := Lib.hid h
  obtain ⟨ab, hab⟩ : ∃ ab, rightB W2 r2 A S D = ab := ⟨_, rfl⟩
  obtain ⟨f, hf⟩ : ∃ f, reF ab A = f := ⟨_, rfl⟩
  obtain ⟨t, ht⟩ : ∃ t, reT ab A S = t := ⟨_, rfl⟩
  obtain ⟨rb, hrb⟩ : ∃ rb, rowB l = rb := ⟨_, rfl⟩
  have Hab := Lib.hid hab
  have Hf := Lib.hid hf
  have Ht := Lib.hid ht
  have Hrb := Lib.hid hrb
  obtain ⟨od, hod⟩ : ∃ od, dcd l ⟨W2, r2, A, S, D⟩ = od := ⟨_, rfl⟩
  rw [hod]
  have HD := Lib.hid hod
  clear h h5 hab hf ht hrb hod
  go_enter Try.func27, Try.ntmps27
  go_wp2_with fail
  refine (rReach_any W2 r2 A S D f t ab _ hA hA' hD hD' Hab.out Hf.out Ht.out).mono ?_
  rintro e w1 ⟨rfl, hb1⟩
  have B1 := Lib.hid (B0.out.trans (hb1.mono B0.out.size))
  have F1 := Lib.hid (H5.out.keep hb1)
  clear hb1 B0 H5 hg
  cases ab with
  | false =>
    have hno : od = none := HD.out.symm.trans (dcd_no (by show (rightB W2 r2 A S D && _) = false; rw [Hab.out]; rfl))
    subst hno
    have B2 := Lib.hid (B1.out.alloc B1.out.size (.cells #[.int .u32 f, .int .u32 t] 41))
    go_wp2_with fail
    go_loopw [9] (fun i wr => i = .int .i64 0 ∧ Below w.heap.size w wr) (fun i _ => 0)
    case atStart => exact ⟨rfl, B2.out⟩
    case round =>
    obtain ⟨rfl, hb⟩ := hrel
    have Hb := Lib.hid hb
    clear hb
    by_cases h0 : 0 < n
    · have d1 : decide ((0 : Int) < (n : Int)) = true := decide_eq_true (by omega)
      go_wp2_with fail
      go_ret3
      exact ⟨rfl, Hb.out⟩
    · have d1 : decide ((0 : Int) < (n : Int)) = false := decide_eq_false (by omega)
      go_wp2_with fail
      go_ret3
      exact ⟨rfl, Hb.out⟩
  | true =>
  cases rb with
  | false =>
    have hno : od = none := HD.out.symm.trans (dcd_no (by rw [Hrb.out]; simp))
    subst hno
    have B2 := Lib.hid (B1.out.alloc B1.out.size (.cells #[.int .u32 f, .int .u32 t] 41))
    go_wp2_with fail
    go_loopw [9] (fun i wr => i = .int .i64 0 ∧ Below w.heap.size w wr) (fun i _ => 0)
    case atStart => exact ⟨rfl, B2.out⟩
    case round =>
    obtain ⟨rfl, hb⟩ := hrel
    have Hb := Lib.hid hb
    clear hb
    by_cases h0 : 0 < n
    · have d1 : decide ((0 : Int) < (n : Int)) = true := decide_eq_true (by omega)
      go_wp2_with fail
      refine (wRight_any a n cap l false _ hn (Hr.out.keep Hb.out) Hrb.out).mono ?_
      rintro e w3 ⟨rfl, hb3⟩
      have Hb3 := Lib.hid (Hb.out.trans (hb3.mono Hb.out.size))
      clear hb3
      go_wp2_with fail
      go_ret3
      exact ⟨rfl, Hb3.out⟩
    · have d1 : decide ((0 : Int) < (n : Int)) = false := decide_eq_false (by omega)
      go_wp2_with fail
      go_ret3
      exact ⟨rfl, Hb.out⟩
  | true =>
  have Hod := Lib.hid ((dcd_is (a := ⟨W2, r2, A, S, D⟩) Hab.out Hrb.out).symm.trans HD.out)
  clear HD
  have hfA : f = A := by rw [← Hf.out]; rfl
  have htA : t = A + S - 1 := by rw [← Ht.out]; rfl
  have HfA := Lib.hid hfA
  have HtA := Lib.hid htA
  clear hfA htA
  go_wp2_with fail
  refine code_letter ?_
  intro X hX
  have P := Lib.hid (show Two X w1.heap.size f t by rw [hX.out]; exact two_new _ _ _ _)
  have BX := Lib.hid (show Below w.heap.size w X by rw [hX.out]; exact B1.out.alloc B1.out.size _)
  have FX := Lib.hid (show Five X g W2 r2 A S D by rw [hX.out]; exact F1.out.alloc _)
  obtain ⟨R, hR⟩ : ∃ R, w1.heap.size = R := ⟨_, rfl⟩
  rw [hR] at P
  rw [hR]
  clear hR hX B1 F1
  go_loopw [9] (fun i wr => ∃ k : Nat, k ≤ n ∧ i = .int .i64 k ∧ Hid (∀ j, j < k → l[j]!.holds A (A + S - 1) = false) ∧ Two wr R f t ∧ Five wr g W2 r2 A S D ∧ Below w.heap.size w wr) (fun i _ => n - (intOf i).toNat)
  case atStart => exact ⟨0, Nat.zero_le _, rfl, Lib.hid (fun j hj => by omega), P.out, FX.out, BX.out⟩
  case round =>
  clear P BX FX
  obtain ⟨k, hk, rfl, hno, hp, hf5, hb⟩ := hrel
  have P := Lib.hid hp
  have F5 := Lib.hid hf5
  have Hb := Lib.hid hb
  have hsz := hb.size
  clear hp hf5 hb
  by_cases hlt : k < n
  · have d1 : decide ((k : Int) < (n : Int)) = true := decide_eq_true (by omega)
    have i1 : (0 : Int) ≤ (k : Int) := by omega
    have i2 : (k : Int) < (n : Int) := by omega
    obtain ⟨b, off, rfl, ce⟩ := Hr.out.2.2 k hlt
    have hok := Hr.out.2.1 k hlt
    go_wp2_with fail
    refine (wRight_any _ n cap l true _ hn (Hr.out.keep Hb.out) Hrb.out).mono ?_
    rintro e w3 ⟨rfl, hb3⟩
    have Hb3 := Lib.hid (Hb.out.trans (hb3.mono hsz))
    have hs3 := Hb3.out.size
    have P3 := Lib.hid (P.out.keep hb3)
    have F3 := Lib.hid (F5.out.keep hb3)
    have ce := ce.keep Hb3.out
    obtain ⟨x, hx⟩ : ∃ x, l[k]! = x := ⟨_, rfl⟩
    rw [hx] at ce hok
    have Hx := Lib.hid hx
    have RX2 := fun w => wReach_dev x w hok
    obtain ⟨f2, hf2⟩ : ∃ f, x.F = f := ⟨_, rfl⟩
    obtain ⟨t2, ht2⟩ : ∃ t, x.T = t := ⟨_, rfl⟩
    obtain ⟨r3, hr3⟩ : ∃ r, x.right = r := ⟨_, rfl⟩
    rw [hf2, ht2, hr3] at RX2
    have RX := Lib.hid RX2
    have Hf2 := Lib.hid hf2
    have Ht2 := Lib.hid ht2
    have Hok := Lib.hid hok
    obtain ⟨xk, xB, xS, xO, xL⟩ := x
    obtain ⟨e0, e1, e2, e3, e4⟩ := ce
    have E1 := Lib.hid e1
    clear hb3 P F5 hx hok RX2 hf2 ht2 hr3
    go_wp2_with fail
    refine (RX.out _).mono ?_
    rintro e w4 ⟨rfl, hb4⟩
    have Hb4 := Lib.hid (Hb3.out.trans (hb4.mono hs3))
    have P4 := Lib.hid (P3.out.keep hb4)
    have F4 := Lib.hid (F3.out.keep hb4)
    have E4 := Lib.hid (cell_keep hb4 E1.out)
    have p0 := alloc_keep P4.out.1 (.cells #[.int .u32 f2, .int .u32 t2] 41)
    have p1 := alloc_keep P4.out.2 (.cells #[.int .u32 f2, .int .u32 t2] 41)
    obtain ⟨mb, hmb⟩ : ∃ mb, Reach.inB f t f2 t2 = mb := ⟨_, rfl⟩
    have Hmb := Lib.hid hmb
    clear hb4 e0 e1 e2 e3 e4 RX hmb P3 F3 E1
    go_wp2_with fail
    refine (rIn_val f t f2 t2 mb _ Hmb.out).mono ?_
    rintro e w5 ⟨rfl, hb5⟩
    have ha4 := (Below.refl w4.heap.size w4).alloc (Nat.le_refl _) (.cells #[.int .u32 f2, .int .u32 t2] 41)
    have hb45 := ha4.trans (hb5.mono ha4.size)
    have Hb5 := Lib.hid (Hb4.out.trans (hb45.mono Hb4.out.size))
    have P5 := Lib.hid (P4.out.keep hb45)
    have F6 := Lib.hid (F4.out.keep hb45)
    have E5 := Lib.hid (cell_keep hb45 E4.out)
    have hho : l[k]!.holds A (A + S - 1) = mb := by rw [Hx.out]; show Reach.inB A (A + S - 1) _ _ = mb; rw [Hf2.out, Ht2.out, ← HtA.out, ← HfA.out]; exact Hmb.out
    have Hho := Lib.hid hho
    clear hb5 ha4 hb45 p0 p1 P4 F4 E4 hho
    cases mb
    · go_wp2_with fail
      refine ⟨⟨k + 1, by omega, by go_num, Lib.hid (fun j hj => ?_), P5.out, F6.out, Hb5.out⟩, by simp [intOf]; omega⟩
      by_cases e : j = k
      · subst e; exact Hho.out
      · exact hno.out j (by omega)
    · have hsome : od = some k := Hod.out.symm.trans (fst_yes (by rw [Hr.out.1]; exact hlt) Hho.out hno.out)
      subst hsome
      have xb0 : 0 ≤ xB := Hok.out.2.1.1
      have xb1 : xB < 4294967296 := Hok.out.2.1.2
      have wq0 : IntKind.i64.wrap xB = xB := IntWalk.i64_in _ (by omega)
      have wq : IntKind.i64.wrap (A - xB) = A - xB := IntWalk.i64_in _ (by omega)
      go_wp2_with fail
      refine wp_region_ext (by kernel_rfl) (by kernel_rfl) ?_
      intro Y hY
      obtain rfl := hY.out
      clear hY
      have y1 := ext_cell E5.out
      have q2 := ext_cell F6.out.c2
      repeat (go_big_quiet_step (fail))
      refine wpQuiet_nil ?_
      intro w9 hw9
      have h9 : Below Y.heap.size Y w9 := by obtain ⟨p9, rfl⟩ := hw9; exact ext_below Y p9
      have H9 := Lib.hid (Hb5.out.trans (h9.mono Hb5.out.size))
      clear hw9 h9 y1 q2
      go_wp2_with fail
      go_ret3
      exact ⟨ret_dec rfl (show A - xB = A - l[k]!.B by rw [Hx.out]) rfl, H9.out⟩
  · obtain rfl : k = n := by omega
    have d1 : decide ((k : Int) < (k : Int)) = false := decide_eq_false (by omega)
    have hnone : od = none := Hod.out.symm.trans (fst_no (fun j hj => hno.out j (by rw [← Hr.out.1]; exact hj)))
    subst hnone
    go_wp2_with fail
    go_ret3
    exact ⟨rfl, Hb.out⟩
theorem wDecode_any (a : Option Addr) (n cap : Nat) (l : List Dv) (W2 : Int) (r2 : Bool) (A S D : Int) (i : Nat) (o : Int) (b : Bool) (w : World) (hn : n ≤ 1000000) (hA : 0 ≤ A) (hA' : A < 4294967296) (hD : 0 ≤ D) (hD' : D < 4294967296) (h : RowV w a n l)
    (hi : (dcd l ⟨W2, r2, A, S, D⟩).getD 0 = i) (ho : offV l ⟨W2, r2, A, S, D⟩ (dcd l ⟨W2, r2, A, S, D⟩) = o) (hb : (dcd l ⟨W2, r2, A, S, D⟩).isSome = b) :
    Calls Try.prog 27 #[.slice a n cap, acc W2 r2 A S D] w fun e w' => e = .returned (.tuple #[.int .i64 (i : Nat), .int .i64 o, .bool b]) ∧ Below w.heap.size w w' := by
  subst hi; subst ho; subst hb
  exact wDecode_core a n cap l W2 r2 A S D w hn hA hA' hD hD' h

theorem at_no {l : List Dv} {p : Int} (h : rowB l = false) : atV l p = none := by unfold atV; rw [if_neg (by rw [h]; simp)]
theorem at_is {l : List Dv} {p : Int} (h : rowB l = true) : atV l p = fst (fun d => d.has p) l := by unfold atV; rw [if_pos h]
set_option maxRecDepth 100000 in
set_option maxHeartbeats 4000000 in
theorem wAt_core (a : Option Addr) (n cap : Nat) (l : List Dv) (p : Int) (w : World) (hn : n ≤ 1000000) (h : RowV w a n l) :
    Calls Try.prog 28 #[.slice a n cap, .int .u32 p] w fun e w' => e = .returned (.tuple #[.int .i64 (((atV l p).getD 0 : Nat) : Int), .bool (atV l p).isSome]) ∧ Below w.heap.size w w' := by
  have Hr := Lib.hid h
  obtain ⟨rb, hrb⟩ : ∃ rb, rowB l = rb := ⟨_, rfl⟩
  have Hrb := Lib.hid hrb
  obtain ⟨od, hod⟩ : ∃ od, atV l p = od := ⟨_, rfl⟩
  rw [hod]
  have HD := Lib.hid hod
  clear h hrb hod
  go_enter Try.func28, Try.ntmps28
  go_wp2_with fail
  cases rb with
  | false =>
    have hno : od = none := HD.out.symm.trans (at_no Hrb.out)
    subst hno
    go_loopw [6] (fun i wr => i = .int .i64 0 ∧ Below w.heap.size w wr) (fun i _ => 0)
    case atStart => exact ⟨rfl, Below.refl _ _⟩
    case round =>
    obtain ⟨rfl, hb⟩ := hrel
    have Hb := Lib.hid hb
    clear hb
    by_cases h0 : 0 < n
    · have d1 : decide ((0 : Int) < (n : Int)) = true := decide_eq_true (by omega)
      go_wp2_with fail
      refine (wRight_any a n cap l false _ hn (Hr.out.keep Hb.out) Hrb.out).mono ?_
      rintro e w3 ⟨rfl, hb3⟩
      have Hb3 := Lib.hid (Hb.out.trans (hb3.mono Hb.out.size))
      clear hb3
      go_wp2_with fail
      go_ret2
      exact ⟨rfl, Hb3.out⟩
    · have d1 : decide ((0 : Int) < (n : Int)) = false := decide_eq_false (by omega)
      go_wp2_with fail
      go_ret2
      exact ⟨rfl, Hb.out⟩
  | true =>
  have Hod := Lib.hid ((at_is (p := p) Hrb.out).symm.trans HD.out)
  clear HD
  go_loopw [6] (fun i wr => ∃ k : Nat, k ≤ n ∧ i = .int .i64 k ∧ Hid (∀ j, j < k → l[j]!.has p = false) ∧ Below w.heap.size w wr) (fun i _ => n - (intOf i).toNat)
  case atStart => exact ⟨0, Nat.zero_le _, rfl, Lib.hid (fun j hj => by omega), Below.refl _ _⟩
  case round =>
  obtain ⟨k, hk, rfl, hno, hb⟩ := hrel
  have Hb := Lib.hid hb
  have hsz := hb.size
  clear hb
  by_cases hlt : k < n
  · have d1 : decide ((k : Int) < (n : Int)) = true := decide_eq_true (by omega)
    have i1 : (0 : Int) ≤ (k : Int) := by omega
    have i2 : (k : Int) < (n : Int) := by omega
    obtain ⟨b, off, rfl, ce⟩ := Hr.out.2.2 k hlt
    have hok := Hr.out.2.1 k hlt
    go_wp2_with fail
    refine (wRight_any _ n cap l true _ hn (Hr.out.keep Hb.out) Hrb.out).mono ?_
    rintro e w3 ⟨rfl, hb3⟩
    have Hb3 := Lib.hid (Hb.out.trans (hb3.mono hsz))
    have hs3 := Hb3.out.size
    have ce := ce.keep Hb3.out
    obtain ⟨x, hx⟩ : ∃ x, l[k]! = x := ⟨_, rfl⟩
    rw [hx] at ce hok
    have Hx := Lib.hid hx
    have RX2 := fun w => wReach_dev x w hok
    obtain ⟨f2, hf2⟩ : ∃ f, x.F = f := ⟨_, rfl⟩
    obtain ⟨t2, ht2⟩ : ∃ t, x.T = t := ⟨_, rfl⟩
    obtain ⟨r3, hr3⟩ : ∃ r, x.right = r := ⟨_, rfl⟩
    rw [hf2, ht2, hr3] at RX2
    have RX := Lib.hid RX2
    have Hf2 := Lib.hid hf2
    have Ht2 := Lib.hid ht2
    obtain ⟨xk, xB, xS, xO, xL⟩ := x
    obtain ⟨e0, e1, e2, e3, e4⟩ := ce
    clear hb3 hx hok RX2 hf2 ht2 hr3
    go_wp2_with fail
    refine (RX.out _).mono ?_
    rintro e w4 ⟨rfl, hb4⟩
    have Hb4 := Lib.hid (Hb3.out.trans (hb4.mono hs3))
    obtain ⟨mb, hmb⟩ : ∃ mb, Reach.hasB f2 t2 p = mb := ⟨_, rfl⟩
    have Hmb := Lib.hid hmb
    clear hb4 e0 e1 e2 e3 e4 RX hmb
    go_wp2_with fail
    refine (rhas_val f2 t2 p mb _ Hmb.out).mono ?_
    rintro e w5 ⟨rfl, hb5⟩
    have ha4 := (Below.refl w4.heap.size w4).alloc (Nat.le_refl _) (.cells #[.int .u32 f2, .int .u32 t2] 41)
    have hb45 := ha4.trans (hb5.mono ha4.size)
    have Hb5 := Lib.hid (Hb4.out.trans (hb45.mono Hb4.out.size))
    have hho : l[k]!.has p = mb := by rw [Hx.out]; show Reach.hasB _ _ p = mb; rw [Hf2.out, Ht2.out]; exact Hmb.out
    have Hho := Lib.hid hho
    clear hb5 ha4 hb45 hho
    cases mb
    · go_wp2_with fail
      refine ⟨⟨k + 1, by omega, by go_num, Lib.hid (fun j hj => ?_), Hb5.out⟩, by simp [intOf]; omega⟩
      by_cases e : j = k
      · subst e; exact Hho.out
      · exact hno.out j (by omega)
    · have hsome : od = some k := Hod.out.symm.trans (fst_yes (by rw [Hr.out.1]; exact hlt) Hho.out hno.out)
      subst hsome
      go_wp2_with fail
      go_ret2
      exact ⟨rfl, Hb5.out⟩
  · obtain rfl : k = n := by omega
    have d1 : decide ((k : Int) < (k : Int)) = false := decide_eq_false (by omega)
    have hnone : od = none := Hod.out.symm.trans (fst_no (fun j hj => hno.out j (by rw [← Hr.out.1]; exact hj)))
    subst hnone
    go_wp2_with fail
    go_ret2
    exact ⟨rfl, Hb.out⟩
theorem wAt_any (a : Option Addr) (n cap : Nat) (l : List Dv) (p : Int) (i : Nat) (b : Bool) (w : World) (hn : n ≤ 1000000) (h : RowV w a n l) (hi : (atV l p).getD 0 = i) (hb : (atV l p).isSome = b) :
    Calls Try.prog 28 #[.slice a n cap, .int .u32 p] w fun e w' => e = .returned (.tuple #[.int .i64 (i : Nat), .bool b]) ∧ Below w.heap.size w w' := by
  subst hi; subst hb
  exact wAt_core a n cap l p w hn h
end Go.Proofs.Ytfpammfcchboaaa.Win
