/- The walk of WindowOne. (ht: what of laid variables package window needs.) -/
import Derived.Test.YtfpammfcchboaaaVn
import Derived.Deep.RegionLaw
namespace Go.Proofs.Ytfpammfcchboaaa.Win
open Go.RowKit Fifo Go.Maps Go.ChangeShapes Go.WideShapes Go.ChangeAt Go.Proofs.Ytfpammfcchboaaa.Access
open Go.Proofs.Ytfpammfcchboaaa.Orow (own_keep own_only own_mono own_blk own_lt own_shape own_put own_pos own_none own_some blk_own own_prefix own_le own_max)
open Go.Proofs.Ytfpammfcchboaaa.Reach (Two two_new)
set_option linter.unusedVariables false

def z5 : Value := .agg #[.int .i64 0, .int .u32 0, .int .i64 0, .int .i64 0, .int .i64 0]
def cnt (b : Bool) (i k : Nat) : Int := if b && decide (i < k) then 1 else 0
theorem cnt_zero (b : Bool) (i : Nat) : cnt b i 0 = 0 := by simp [cnt]
theorem cnt_no {b : Bool} {i k : Nat} (h : (b && i == k) = false) : cnt b i (k + 1) = cnt b i k := by
  unfold cnt
  cases b with
  | false => rfl
  | true =>
    have hne : i ≠ k := by simpa using h
    simp only [Bool.true_and, decide_eq_true_eq]
    by_cases h1 : i < k
    · rw [if_pos (by omega), if_pos h1]
    · rw [if_neg (by omega), if_neg h1]
theorem cnt_yes {b : Bool} {i k : Nat} (h : (b && i == k) = true) : cnt b i k = 0 ∧ cnt b i (k + 1) = 1 := by
  simp only [Bool.and_eq_true, beq_iff_eq] at h
  obtain ⟨rfl, rfl⟩ := h
  simp [cnt]
theorem cnt_all {b : Bool} {i n : Nat} (h : b = true → i < n) : cnt b i n = if b then 1 else 0 := by
  cases b with
  | false => rfl
  | true => simp [cnt, h rfl]
theorem cnt_le (b : Bool) (i k : Nat) : 0 ≤ cnt b i k ∧ cnt b i k ≤ 1 := by unfold cnt; split <;> omega
theorem right_S {W : Int} {r : Bool} {A S D : Int} (h : Access.rightB W r A S D = true) : 1 ≤ S ∧ S ≤ 4 := by
  unfold Access.rightB Lane.alB Word.sizeB at h
  simp only [Bool.and_eq_true, decide_eq_true_eq] at h
  omega
theorem dcd_right {l : List Dv} {W : Int} {r : Bool} {A S D : Int} {b : Bool} (h : (dcd l ⟨W, r, A, S, D⟩).isSome = b) (hr : Access.rightB W r A S D = false) : b = false := by
  cases b with
  | false => rfl
  | true =>
    have := (dcd_some h).1
    unfold Ac.right at this
    rw [hr] at this
    cases this

set_option maxRecDepth 100000 in
set_option maxHeartbeats 8000000 in
theorem wone_of (a : Option Addr) (n cap : Nat) (l : List Dv) (W2 : Int) (r2 : Bool) (A S D : Int) (m ow li : Int) (w : World) (h : RowV w a n l) (hno : a = none → n = 0 ∧ cap = 0) (hc : n ≤ cap) (hm : n ≤ maxLen)
    (hA : 0 ≤ A) (hA' : A < 4294967296) (hD : 0 ≤ D) (hD' : D < 4294967296) (ht : WT w) :
    Calls Try.prog 5 #[.slice a n cap, acc W2 r2 A S D, .int .i64 m, .int .i64 ow, .int .i64 li] w fun e w' => e = .returned (.bool true) ∧ Below w.heap.size w w' := by
  obtain ⟨b0, hb0⟩ : ∃ b0, w.heap.size = b0 := ⟨_, rfl⟩
  have h5 := five_new w W2 r2 A S D 28
  rw [hb0] at h5
  have H5 := Lib.hid h5
  have B0 := Lib.hid (below_new (w := w) (.cells #[.int .i64 W2, .bool r2, .int .u32 A, .int .i64 S, .int .u32 D] 28))
  have Hr := Lib.hid h
  have Ht := Lib.hid ht
  have Hno := Lib.hid hno
  clear h ht hno h5
  by_cases hn : n ≤ 100
  · have d1 : decide ((100 : Int) < (n : Int)) = false := decide_eq_false (by omega)
    have Right := Lib.hid (fun w (h1 : WT w) (h2 : RowV w a n l) => Right_any a n cap l (rowB l) w (by omega) hc h1 h2 rfl)
    cases hb : rowB l with
    | false =>
      rw [hb] at Right
      go_enter Try.func5, Try.ntmps5
      go_wp2_with fail
      refine (awake_any _ (Ht.out.keep B0.out)).mono ?_
      rintro e w1 ⟨rfl, hb1⟩
      have B1 := Lib.hid (B0.out.trans (hb1.mono B0.out.size))
      clear hb1
      go_wp2_with fail
      refine (Right.out _ (Ht.out.keep B1.out) (Hr.out.keep B1.out)).mono ?_
      rintro e w2 ⟨rfl, hb2⟩
      have B2 := Lib.hid (B1.out.trans (hb2.mono B1.out.size))
      clear hb2
      go_wp2_with fail
      go_ret
      exact ⟨rfl, B2.out⟩
    | true =>
      have hl16 : n ≤ 16 := by have := (rowB_iff.1 hb).1; rw [Hr.out.1] at this; exact this
      have Hrow := Lib.hid hb
      rw [hb] at Right
      obtain ⟨i0, hi0⟩ : ∃ i, (dcd l ⟨W2, r2, A, S, D⟩).getD 0 = i := ⟨_, rfl⟩
      obtain ⟨o, ho⟩ : ∃ o, offV l ⟨W2, r2, A, S, D⟩ (dcd l ⟨W2, r2, A, S, D⟩) = o := ⟨_, rfl⟩
      obtain ⟨b, hbb⟩ : ∃ b, (dcd l ⟨W2, r2, A, S, D⟩).isSome = b := ⟨_, rfl⟩
      obtain ⟨ra, hra⟩ : ∃ ra, Access.rightB W2 r2 A S D = ra := ⟨_, rfl⟩
      obtain ⟨f, hf⟩ : ∃ f, reF ra A = f := ⟨_, rfl⟩
      obtain ⟨t, htt⟩ : ∃ t, reT ra A S = t := ⟨_, rfl⟩
      have Hi := Lib.hid hi0
      have Ho := Lib.hid ho
      have Hbb := Lib.hid hbb
      have Hra := Lib.hid hra
      have Hf := Lib.hid hf
      have Htt := Lib.hid htt
      obtain ⟨q0, q1, q2, q3, q4⟩ := H5.out
      clear hb hi0 ho hbb hra hf htt
      go_enter Try.func5, Try.ntmps5
      go_wp2_with fail
      refine (awake_any _ (Ht.out.keep B0.out)).mono ?_
      rintro e w1 ⟨rfl, hb1⟩
      have B1 := Lib.hid (B0.out.trans (hb1.mono B0.out.size))
      have F1 := Lib.hid (H5.out.keep hb1)
      clear hb1 q0 q1 q2 q3 q4 H5
      go_wp2_with fail
      refine (Right.out _ (Ht.out.keep B1.out) (Hr.out.keep B1.out)).mono ?_
      rintro e w2 ⟨rfl, hb2⟩
      have B2 := Lib.hid (B1.out.trans (hb2.mono B1.out.size))
      have F2 := Lib.hid (F1.out.keep hb2)
      clear hb2 B1 F1
      obtain ⟨q0, q1, q2, q3, q4⟩ := F2.out
      go_wp2_with fail
      refine (Decode_any a n cap l W2 r2 A S D i0 o b _ (by omega) hc hA hA' hD hD' (Ht.out.keep B2.out) (Hr.out.keep B2.out) Hi.out Ho.out Hbb.out).mono ?_
      rintro e w3 ⟨rfl, hb3⟩
      have B3 := Lib.hid (B2.out.trans (hb3.mono B2.out.size))
      have F3 := Lib.hid (F2.out.keep hb3)
      clear hb3 B2 F2 q0 q1 q2 q3 q4
      obtain ⟨q0, q1, q2, q3, q4⟩ := F3.out
      go_wp2_with fail
      refine (Access.Reach_any W2 r2 A S D f t ra _ hA hA' hD hD' Hra.out Hf.out Htt.out).mono ?_
      rintro e w4 ⟨rfl, hb4⟩
      have B4 := Lib.hid ((B3.out.trans (hb4.mono B3.out.size)).alloc (B3.out.trans (hb4.mono B3.out.size)).size (.cells #[.int .u32 f, .int .u32 t] 41))
      have F4 := Lib.hid ((F3.out.keep hb4).keep (below_new (w := w4) (.cells #[.int .u32 f, .int .u32 t] 41)))
      have T4 := Lib.hid (two_new w4 f t 41)
      obtain ⟨b4, hb4e⟩ : ∃ g, w4.heap.size = g := ⟨_, rfl⟩
      rw [hb4e] at T4
      clear hb4 B3 F3 q0 q1 q2 q3 q4
      go_wp2_with fail
      try simp only [hb4e]
      obtain ⟨v4, hv4⟩ : ∃ v, w4.alloc (.cells #[.int .u32 f, .int .u32 t] 41) = v := ⟨_, rfl⟩
      rw [hv4] at B4 F4 T4
      try rw [hv4]
      clear hv4 hb4e
      go_loopw [16, 17] (fun mv i wr => ∃ k : Nat, k ≤ n ∧ i = .int .i64 k ∧ mv = .int .i64 (cnt b i0 k) ∧ Below v4.heap.size v4 wr) (fun _ i _ => n - (intOf i).toNat)
      case atStart => exact ⟨0, Nat.zero_le _, rfl, by rw [cnt_zero], Below.refl _ _⟩
      case round =>
      obtain ⟨k, hk, rfl, rfl, hb⟩ := hrel
      have Hb := Lib.hid hb
      have hsz := hb.size
      clear hb
      by_cases hlt : k < n
      · obtain ⟨ba, off, rfl, ce⟩ := Hr.out.2.2 k hlt
        have ce := ce.keep (B4.out.trans (Hb.out.mono B4.out.size))
        have hok := Hr.out.2.1 k hlt
        obtain ⟨g1, g2, g3, g4, g5, g6, g7, g8, g9⟩ := row_at Hrow.out (by rw [Hr.out.1]; exact hlt) hok
        have hh : Access.rightB W2 r2 A S D = true → l[k]!.holds A (A + S - 1) = (b && i0 == k) := fun e => by
          rw [← Hi.out, ← Hbb.out]; exact dcd_has (a := ⟨W2, r2, A, S, D⟩) Hrow.out e (by rw [Hr.out.1]; exact hlt)
        have hoo : b = true → i0 = k → o = A - l[k]!.B := fun e1 e2 => by
          have := (dcd_some (Hbb.out.trans e1)).2.2.2.2
          rw [Ho.out, Hi.out, e2] at this
          exact this
        obtain ⟨x, hx⟩ : ∃ x, l[k]! = x := ⟨_, rfl⟩
        rw [hx] at ce hok g1 g2 g3 g4 g5 g6 g7 g8 g9 hh hoo
        obtain ⟨fx, hf⟩ : ∃ f, x.F = f := ⟨_, rfl⟩
        obtain ⟨tx, ht⟩ : ∃ t, x.T = t := ⟨_, rfl⟩
        have RX := Lib.hid (fun w (h1 : WT w) => Reach_any x.k x.B x.S x.O x.L fx tx true w hok.1.1 hok.1.2 hok.2.1.1 hok.2.1.2 hok.2.2.1.1 hok.2.2.1.2 g1 (by rw [← hf]; unfold Dv.F; rw [g1]) (by rw [← ht]; unfold Dv.T; rw [g1]))
        have hh2 : Access.rightB W2 r2 A S D = true → Reach.inB A (A + S - 1) fx tx = (b && i0 == k) := fun e => by rw [← hf, ← ht]; exact hh e
        rw [hf] at g2 g4 g5 g7
        rw [ht] at g3 g5 g6 g8
        obtain ⟨xk, xB, xS, xO, xL⟩ := x
        simp only [] at g2 g3 hoo
        have wt := WT.keep Ht.out (B4.out.trans (Hb.out.mono B4.out.size))
        have HH := Lib.hid hh2
        have HO := Lib.hid hoo
        have HE := Lib.hid (show xS = tx - fx + 1 by omega)
        have HB := Lib.hid g2
        have Wt := Lib.hid wt
        have F5 := Lib.hid (F4.out.keep Hb.out)
        have T5 := Lib.hid (T4.out.keep Hb.out)
        have s1 : 0 ≤ fx := g4
        have s2 : fx ≤ tx := g5
        have s3 : tx < 4294967296 := g6
        have s4 : xS ≤ 4294967296 := by omega
        have s5 : 0 ≤ xS := by omega
        obtain ⟨e0, e1, e2, e3, e4⟩ := ce
        have i1 : (0 : Int) ≤ (k : Int) := by omega
        have i2 : (k : Int) < (n : Int) := by omega
        clear hx hok hh hh2 hoo g1 g2 g3 g4 g5 g6 g7 g8 g9 hf ht wt
        go_wp2_with fail
        refine (RX.out _ Wt.out).mono ?_
        rintro e w5 ⟨rfl, hb5⟩
        have B5 := Lib.hid (Hb.out.trans (hb5.mono hsz))
        have T6 := Lib.hid (two_new w5 fx tx 41)
        have N5 := Lib.hid (below_new (w := w5) (.cells #[.int .u32 fx, .int .u32 tx] 41))
        have E6 := Lib.hid (cell_keep N5.out (cell_keep hb5 e2))
        have F6 := Lib.hid ((F5.out.keep hb5).keep N5.out)
        have T7 := Lib.hid ((T5.out.keep hb5).keep N5.out)
        have B6 := Lib.hid (B5.out.alloc B5.out.size (.cells #[.int .u32 fx, .int .u32 tx] 41))
        clear hb5 e0 e1 e2 e3 e4 B5 RX F5 T5
        cases ra with
        | false =>
          have HBF := Lib.hid (dcd_right Hbb.out Hra.out)
          go_wp2_with fail
          exact ⟨⟨k + 1, by omega, by go_num, by rw [cnt_no (by rw [HBF.out]; rfl)], B6.out⟩, by simp [intOf]; omega⟩
        | true =>
          obtain rfl : A = f := Hf.out
          obtain rfl : A + S - 1 = t := Htt.out
          obtain ⟨c, hc2⟩ : ∃ c, (b && i0 == k) = c := ⟨_, rfl⟩
          have hin := HH.out Hra.out
          rw [hc2] at hin
          have HI := Lib.hid (fun w => Reach.In_val A (A + S - 1) fx tx c w hin)
          have Hc := Lib.hid hc2
          have S14 := right_S Hra.out
          obtain ⟨z1, z2⟩ := S14
          have Hin := Lib.hid hin
          obtain ⟨t0, t1⟩ := T6.out
          obtain ⟨p0, p1⟩ := T7.out
          clear hc2 hin HH
          go_wp2_with fail
          refine (HI.out _).mono ?_
          rintro e w6 ⟨rfl, hb6⟩
          have B7 := Lib.hid (B6.out.trans (hb6.mono B6.out.size))
          have T8 := Lib.hid (T6.out.keep hb6)
          have F8 := Lib.hid (F6.out.keep hb6)
          have E8 := Lib.hid (cell_keep hb6 E6.out)
          clear hb6 T6 F6 E6 B6 T7 t0 t1 p0 p1 N5
          cases c with
          | false =>
            go_wp2_with fail
            exact ⟨⟨k + 1, by omega, by go_num, by rw [cnt_no Hc.out], B7.out⟩, by simp [intOf]; omega⟩
          | true =>
            have hcy := cnt_yes Hc.out
            obtain ⟨hb1, hi1⟩ : b = true ∧ i0 = k := by have := Hc.out; simpa only [Bool.and_eq_true, beq_iff_eq] using this
            subst hb1
            subst hi1
            have ho := HO.out rfl rfl
            rw [← HB.out] at ho
            have hin := Hin.out
            unfold Reach.inB at hin
            simp only [decide_eq_true_eq] at hin
            have hxs := HE.out
            have z3 : (o != A - fx) = false := by rw [ho]; simp
            have z4 : decide (o < 0) = false := decide_eq_false (by omega)
            have z5 : decide (xS < o + S) = false := decide_eq_false (by omega)
            have z6 : 0 ≤ o := by omega
            have z7 : o < 4294967296 := by omega
            have HCN := Lib.hid hcy.2
            rw [hcy.1]
            clear hcy ho hin hxs HO HB
            go_wp2_with fail
            refine wp_region_ext (by kernel_rfl) (by kernel_rfl) ?_
            intro Y hY
            obtain rfl := hY.out
            clear hY
            obtain ⟨k0, k1, k2, k3, k4⟩ := F8.out
            have y0 := ext_cell k2
            have y1 := ext_cell k3
            have y2 := ext_cell T8.out.1
            have y3 := ext_cell T8.out.2
            have y4 := ext_cell E8.out
            clear k0 k1 k2 k3 k4
            try simp only [Act.put]
            repeat (go_big_quiet_step (fail))
            refine wpQuiet_nil ?_
            intro w9 hw9
            obtain ⟨p9, rfl⟩ := hw9
            have H9 := Lib.hid (B7.out.trans ((ext_below _ p9).mono B7.out.size))
            clear y0 y1 y2 y3 y4 z3 z4 z5
            go_wp2_with fail
            exact ⟨⟨i0 + 1, by omega, by go_num, by rw [HCN.out], H9.out⟩, by simp [intOf]; omega⟩
      · have HKN := Lib.hid (show k = n by omega)
        have hcn := cnt_all (b := b) (i := i0) (n := k) (fun e => by
          rw [HKN.out, ← Hr.out.1, ← Hi.out]
          exact (dcd_some (Hbb.out.trans e)).2.2.1)
        obtain ⟨mv, hmv⟩ : ∃ mv, cnt b i0 k = mv := ⟨_, rfl⟩
        rw [hmv] at hcn ⊢
        have F5 := Lib.hid (F4.out.keep Hb.out)
        have B5 := Lib.hid (B4.out.trans (Hb.out.mono B4.out.size))
        clear hmv hk F4 T4 B4
        obtain ⟨q0, q1, q2, q3, q4⟩ := F5.out
        have hHA := fun e : b = true => dcd_at (l := l) (a := ⟨W2, r2, A, S, D⟩) (Hbb.out.trans e) (by
          have : 1 ≤ S ∧ S ≤ 4 := right_S (dcd_some (Hbb.out.trans e)).1
          show A ≤ A + S - 1
          omega)
        obtain ⟨j, hj⟩ : ∃ j, (atV l A).getD 0 = j := ⟨_, rfl⟩
        obtain ⟨bj, hbj⟩ : ∃ bj, (atV l A).isSome = bj := ⟨_, rfl⟩
        have At := Lib.hid (fun w (h1 : WT w) (h2 : RowV w a n l) => At_any a n cap l A j bj w (by omega) hc h1 h2 hj hbj)
        simp only [Hi.out] at hHA
        rw [hj, hbj] at hHA
        obtain ⟨qk, hqk, Pk⟩ := pick_is m (n + 1) (by omega) (by omega)
        have Pk := Lib.hid Pk
        have HN := Lib.hid (show b = false → i0 = 0 ∧ o = 0 from fun e => by
          have := dcd_none (Hbb.out.trans e)
          rw [Hi.out, Ho.out] at this
          exact this)
        clear hj hbj
        cases b with
        | false =>
          obtain ⟨hz1, hz2⟩ := HN.out rfl
          obtain rfl : mv = 0 := hcn
          subst hz1
          subst hz2
          clear hHA
          go_wp2_with fail
          refine (At.out _ (Ht.out.keep B5.out) (Hr.out.keep B5.out)).mono ?_
          rintro e w6 ⟨rfl, hb6⟩
          have B6 := Lib.hid (B5.out.trans (hb6.mono B5.out.size))
          have F6 := Lib.hid (F5.out.keep hb6)
          clear hb6 F5 B5 q0 q1 q2 q3 q4 At
          go_wp2_with fail
          refine (Pk.out _).mono ?_
          rintro e w7 ⟨rfl, rfl⟩
          have HR6 := Lib.hid (Hr.out.keep B6.out)
          have i1 : (0 : Int) ≤ (qk : Int) := by omega
          have i2 : (qk : Int) ≤ (n : Int) := by omega
          have i3 : (qk : Int) ≤ (cap : Int) := by omega
          have i4 : (n : Int) ≤ (cap : Int) := by omega
          obtain ⟨ii, hi, hz0, hz1, hz2⟩ := info_parts KitDevices.info_e
          have Hi5 := Lib.hid hi
          have Hz0 := Lib.hid hz0
          have Hz1 := Lib.hid hz1
          have Hz2 := Lib.hid hz2
          have BD := Lib.hid (show Below w6.heap.size w6 (w6.alloc (.cells #[] 26)).drew from ((Below.refl w6.heap.size w6).alloc (Nat.le_refl _) _).drew)
          have HL1 := Lib.hid (show (flV (l.drop qk)).length = (n - qk) * 5 by rw [flV_len, List.length_drop, Hr.out.1])
          have HL2 := Lib.hid (show (flV (l.take qk)).length = qk * 5 by rw [flV_len, List.length_take, Hr.out.1, Nat.min_eq_left (by omega)])
          have HE8 := Lib.hid (show n - qk + qk = n by omega)
          have HF8 := Lib.hid (show flV [] ++ flV (l.drop qk) ++ flV (l.take qk) = flV (rot l qk) by unfold rot; rw [flV_append]; rfl)
          have Hok6 := Lib.hid (show ∀ j, j < n → okD (rot l qk)[j]! from fun j hj => by
            rw [rot_get (by rw [Hr.out.1]; omega) (by rw [Hr.out.1]; exact hj), Hr.out.1]
            exact Hr.out.2.1 _ (sg_lt (by omega) hj))
          have HRL := Lib.hid (show (rot l qk).length = n by rw [rot_len]; exact Hr.out.1)
          obtain ⟨po, hpo, PO⟩ := pick_is ow 9 (by omega) (by omega)
          obtain ⟨pl, hpl, PL⟩ := pick_is li 9 (by omega) (by omega)
          have PO := Lib.hid PO
          have PL := Lib.hid PL
          have wf1 : (po : Int) < 9 := by omega
          have wf2 : (pl : Int) < 9 := by omega
          clear hi hz0 hz1 hz2
          cases a with
          | none =>
            obtain ⟨hn0, hc0⟩ := Hno.out rfl
            subst hn0
            subst hc0
            obtain rfl : qk = 0 := by omega
            go_wp2_with fail
            go_region_law (fail)
            obtain ⟨a8, ha8⟩ : ∃ x : Option Addr, some (⟨w6.heap.size, 0, none⟩ : Addr) = x := ⟨_, rfl⟩
            have hl0 : l = [] := List.eq_nil_of_length_eq_zero Hr.out.1
            have R8 := Lib.hid (show (w6.alloc (.cells #[] 26)).drew.ownsRow w6.heap.size 26 5 (.slice a8 0 0) 0 (flV (rot l 0)) by rw [← ha8, hl0]; exact own_keep (new_ownV w6) (Below.refl _ _).drew)
            have D8 := Lib.hid BD.out
            have hc8 : 0 ≤ 0 := Nat.le_refl 0
            try simp only [ha8]
            have D7 := hc8
            have R7 := hc8
            clear ha8 hl0
            have B8 := Lib.hid (B6.out.trans (D8.out.mono B6.out.size))
            clear BD D7 R7 HL1 HL2 HE8 HF8
            go_wp2_with fail
            go_loopw [24] (fun i wr => ∃ (k2 : Nat) (d : List Dv), k2 ≤ 0 ∧ i = .int .i64 k2 ∧ d.length = 0 ∧ (∀ j, j < k2 → d[j]! = sw ((po : Int) - 1) ((pl : Int) - 1) (rot l 0)[j]!) ∧ (∀ j, k2 ≤ j → j < 0 → d[j]! = (rot l 0)[j]!) ∧ wr.ownsRow w6.heap.size 26 5 (.slice a8 0 0) 0 (flV d) ∧ Below w6.heap.size w6 wr) (fun i _ => 0 - (intOf i).toNat)
            case atStart => exact ⟨0, rot l 0, Nat.zero_le _, rfl, HRL.out, fun j hj => by omega, fun j _ _ => rfl, R8.out, D8.out⟩
            case round =>
            obtain ⟨k2, d, hk2, rfl, hd1, hd2, hd3, hown, hb⟩ := hrel
            have Hd1 := Lib.hid hd1
            have Hd2 := Lib.hid hd2
            have Hd3 := Lib.hid hd3
            have Hown := Lib.hid hown
            have Hb8 := Lib.hid hb
            clear hd1 hd2 hd3 hown hb R8 D8
            by_cases hlt2 : k2 < 0
            · exact absurd hlt2 (by omega)
            · have hkn2 := Lib.hid (show k2 = 0 by omega)
              have HA8 := Lib.hid (rot_all (l := l) (m := d) (a := ⟨W2, r2, A, S, D⟩) (k := 0) (O := (po : Int) - 1) (L := (pl : Int) - 1) Hrow.out (by rw [Hr.out.1]; omega) ⟨by omega, by omega⟩ ⟨by omega, by omega⟩ (by rw [Hd1.out, Hr.out.1]) (fun i hi => Hd2.out i (by rw [hkn2.out, ← Hr.out.1]; exact hi)))
              have HV := Lib.hid (rowV_of_own Hd1.out (fun j hj => by
                rw [Hd2.out j (by rw [hkn2.out]; exact hj)]
                have := Hok6.out j hj
                exact ⟨this.1, this.2.1, this.2.2.1, ⟨by show _ ≤ (po : Int) - 1; omega, by show (po : Int) - 1 ≤ _; omega⟩, ⟨by show _ ≤ (pl : Int) - 1; omega, by show (pl : Int) - 1 ≤ _; omega⟩⟩) Hown.out)
              obtain ⟨i9, hi9⟩ : ∃ i, (dcd d ⟨W2, r2, A, S, D⟩).getD 0 = i := ⟨_, rfl⟩
              have Hi9 := Lib.hid hi9
              have F9 := Lib.hid (F6.out.keep (by have := Hb8.out; exact this))
              have B9 := Lib.hid (B6.out.trans (Hb8.out.mono B6.out.size))
              have Dec := Lib.hid (fun w (h1 : WT w) (h2 : RowV w a8 0 d) => Decode_any a8 0 0 d W2 r2 A S D i9 0 false w (by omega) hc8 hA hA' hD hD' h1 h2 hi9 (by rw [HA8.out.2.2.1]; exact Ho.out) (by rw [HA8.out.2.1]; exact Hbb.out))
              have Rgt := Lib.hid (fun w (h1 : WT w) (h2 : RowV w a8 0 d) => Right_any a8 0 0 d true w (by omega) hc8 h1 h2 HA8.out.1)
              obtain ⟨q0, q1, q2, q3, q4⟩ := F9.out
              clear hi9 F6
              go_wp2_with fail
              refine (Dec.out _ (Ht.out.keep B9.out) HV.out).mono ?_
              rintro e w10 ⟨rfl, hb10⟩
              have B10 := Lib.hid (B9.out.trans (hb10.mono B9.out.size))
              have HV10 := Lib.hid (HV.out.keep hb10)
              clear hb10 q0 q1 q2 q3 q4 Dec
              go_wp2_with fail
              refine wp_region_ext (by kernel_rfl) (by kernel_rfl) ?_
              intro Y hY
              obtain rfl := hY.out
              clear hY
              have BY := Lib.hid B10.out
              have HY := Lib.hid (fun q => HV10.out.keep (ext_below _ q))
              try simp only [Act.put]
              repeat (go_big_quiet_step ((first
                | (go_at_call 13; with_reducible exact ext_of (Rgt.out _ ((Ht.out.keep BY.out).keep (ext_below _ _)) (HY.out _))))))
              refine wpQuiet_nil ?_
              intro w11 hw11
              obtain ⟨p11, rfl⟩ := hw11
              have B11 := Lib.hid (BY.out.trans ((ext_below _ p11).mono BY.out.size))
              go_wp2_with fail
              go_ret
              exact ⟨rfl, B11.out⟩
          | some ad =>
            by_cases hq : cap = qk
            · obtain rfl : qk = cap := hq.symm
              obtain rfl : qk = n := by omega
              rw [Nat.sub_self] at HL1 HE8
              go_wp2_with fail
              go_region_law (first
                | (refine (if_pos (by rfl)).mpr ?_; refine wp_append_any _ _ _ 22 rfl w6.heap.size 26 ii z5 5 40 Try.underlying22 Hi5.out Hz0.out Hz1.out Hz2.out rfl (by decide) (.slice a7 0 c7) 0 _ rfl R7.out (some ad) qk qk (flV (l.take qk)) rfl HL2.out (fun e => by cases e) (rowV_cells ((HR6.out.keep D7.out).take (by omega))) flV_cells (by unfold maxLen; omega) (by omega) D7.out.size ?_; intro v8 w8 hown8 hgrow8; rw [HE8.out, HF8.out] at hown8; obtain ⟨a8, c8, rfl, hc8, hn8⟩ := own_shape hown8; have R8 := Lib.hid hown8; have D8 := Lib.hid (D7.out.grown hgrow8 D7.out.size (fun k e => (R7.out.lt k e).1)); clear hown8 hgrow8)
                | (refine (if_pos (by rfl)).mpr ?_; refine wp_append_any _ _ _ 22 rfl w6.heap.size 26 ii z5 5 40 Try.underlying22 Hi5.out Hz0.out Hz1.out Hz2.out rfl (by decide) (.slice (some ⟨w6.heap.size, 0, none⟩) 0 0) 0 (flV []) rfl (own_keep (new_ownV w6) (Below.refl _ _).drew) (some ad) 0 0 (flV (l.drop qk)) rfl HL1.out (fun e => by cases e) (rowV_cells ((HR6.out.keep BD.out).tail0 (by omega))) flV_cells (by unfold maxLen; omega) (by omega) (by simp) ?_; intro v7 w7 hown7 hgrow7; rw [Nat.zero_add] at hown7; obtain ⟨a7, c7, rfl, hc7, hn7⟩ := own_shape hown7; have R7 := Lib.hid hown7; have D7 := Lib.hid (BD.out.grown hgrow7 BD.out.size (fun k e => by cases e; exact Nat.le_refl _)); clear hown7 hgrow7))
              have B8 := Lib.hid (B6.out.trans (D8.out.mono B6.out.size))
              clear BD D7 R7 HL1 HL2 HE8 HF8
              go_wp2_with fail
              go_loopw [24] (fun i wr => ∃ (k2 : Nat) (d : List Dv), k2 ≤ qk ∧ i = .int .i64 k2 ∧ d.length = qk ∧ (∀ j, j < k2 → d[j]! = sw ((po : Int) - 1) ((pl : Int) - 1) (rot l qk)[j]!) ∧ (∀ j, k2 ≤ j → j < qk → d[j]! = (rot l qk)[j]!) ∧ wr.ownsRow w6.heap.size 26 5 (.slice a8 qk c8) qk (flV d) ∧ Below w6.heap.size w6 wr) (fun i _ => qk - (intOf i).toNat)
              case atStart => exact ⟨0, rot l qk, Nat.zero_le _, rfl, HRL.out, fun j hj => by omega, fun j _ _ => rfl, R8.out, D8.out⟩
              case round =>
              obtain ⟨k2, d, hk2, rfl, hd1, hd2, hd3, hown, hb⟩ := hrel
              have Hd1 := Lib.hid hd1
              have Hd2 := Lib.hid hd2
              have Hd3 := Lib.hid hd3
              have Hown := Lib.hid hown
              have Hb8 := Lib.hid hb
              clear hd1 hd2 hd3 hown hb R8 D8
              by_cases hlt2 : k2 < qk
              · obtain ⟨g8, rfl⟩ := own_some Hown.out (.inl (by omega))
                obtain ⟨cur, u1, u2, u3, u4, u5, u6⟩ := own_blk Hown.out
                obtain ⟨v3, hv3⟩ : ∃ v, cur[k2 * 5 + 3]? = some v := ⟨cur[k2 * 5 + 3]'(by omega), List.getElem?_eq_getElem (by omega)⟩
                obtain ⟨v4, hv4⟩ : ∃ v, (cur.set (k2 * 5 + 3) (.int .i64 ((po : Int) - 1)))[k2 * 5 + 4]? = some v := ⟨(cur.set (k2 * 5 + 3) (.int .i64 ((po : Int) - 1)))[k2 * 5 + 4]'(by rw [List.length_set]; omega), List.getElem?_eq_getElem (by rw [List.length_set]; omega)⟩
                have e3 := u1.at (k2 * 5 + 3) hv3
                have f3 := u1.frozen (k2 * 5 + 3)
                have e4 := (u1.set (k2 * 5 + 3) (.int .i64 ((po : Int) - 1))).at (k2 * 5 + 4) hv4
                have f4 := (u1.set (k2 * 5 + 3) (.int .i64 ((po : Int) - 1))).frozen (k2 * 5 + 4)
                have HS := Lib.hid (sw_step (O := (po : Int) - 1) (L := (pl : Int) - 1) HRL.out Hd1.out hlt2 Hd2.out Hd3.out)
                have HW := Lib.hid (own_sw (O := (po : Int) - 1) (L := (pl : Int) - 1) Hown.out Hd1.out hlt2)
                have HB9 := Lib.hid ((Hb8.out.setCell (p := ⟨g8, k2 * 5 + 3, none⟩) u6 (.int .i64 ((po : Int) - 1))).setCell (p := ⟨g8, k2 * 5 + 4, none⟩) u6 (.int .i64 ((pl : Int) - 1)))
                have j1 : (0 : Int) ≤ (k2 : Int) := by omega
                have j2 : (k2 : Int) < (qk : Int) := by omega
                clear u1 u2 u3 u4 u5 u6 hv3 hv4
                go_wp2_with fail
                refine (PO.out _).mono ?_
                rintro e w9 ⟨rfl, rfl⟩
                go_wp2_with fail
                refine (PL.out _).mono ?_
                rintro e w9 ⟨rfl, rfl⟩
                go_wp2_with fail
                exact ⟨⟨k2 + 1, _, by omega, by go_num, HS.out.1, HS.out.2.1, HS.out.2.2, HW.out, HB9.out⟩, by simp [intOf]; omega⟩
              · have hkn2 := Lib.hid (show k2 = qk by omega)
                have HA8 := Lib.hid (rot_all (l := l) (m := d) (a := ⟨W2, r2, A, S, D⟩) (k := qk) (O := (po : Int) - 1) (L := (pl : Int) - 1) Hrow.out (by rw [Hr.out.1]; omega) ⟨by omega, by omega⟩ ⟨by omega, by omega⟩ (by rw [Hd1.out, Hr.out.1]) (fun i hi => Hd2.out i (by rw [hkn2.out, ← Hr.out.1]; exact hi)))
                have HV := Lib.hid (rowV_of_own Hd1.out (fun j hj => by
                  rw [Hd2.out j (by rw [hkn2.out]; exact hj)]
                  have := Hok6.out j hj
                  exact ⟨this.1, this.2.1, this.2.2.1, ⟨by show _ ≤ (po : Int) - 1; omega, by show (po : Int) - 1 ≤ _; omega⟩, ⟨by show _ ≤ (pl : Int) - 1; omega, by show (pl : Int) - 1 ≤ _; omega⟩⟩) Hown.out)
                obtain ⟨i9, hi9⟩ : ∃ i, (dcd d ⟨W2, r2, A, S, D⟩).getD 0 = i := ⟨_, rfl⟩
                have Hi9 := Lib.hid hi9
                have F9 := Lib.hid (F6.out.keep (by have := Hb8.out; exact this))
                have B9 := Lib.hid (B6.out.trans (Hb8.out.mono B6.out.size))
                have Dec := Lib.hid (fun w (h1 : WT w) (h2 : RowV w a8 qk d) => Decode_any a8 qk c8 d W2 r2 A S D i9 0 false w (by omega) hc8 hA hA' hD hD' h1 h2 hi9 (by rw [HA8.out.2.2.1]; exact Ho.out) (by rw [HA8.out.2.1]; exact Hbb.out))
                have Rgt := Lib.hid (fun w (h1 : WT w) (h2 : RowV w a8 qk d) => Right_any a8 qk c8 d true w (by omega) hc8 h1 h2 HA8.out.1)
                obtain ⟨q0, q1, q2, q3, q4⟩ := F9.out
                clear hi9 F6
                go_wp2_with fail
                refine (Dec.out _ (Ht.out.keep B9.out) HV.out).mono ?_
                rintro e w10 ⟨rfl, hb10⟩
                have B10 := Lib.hid (B9.out.trans (hb10.mono B9.out.size))
                have HV10 := Lib.hid (HV.out.keep hb10)
                clear hb10 q0 q1 q2 q3 q4 Dec
                go_wp2_with fail
                refine wp_region_ext (by kernel_rfl) (by kernel_rfl) ?_
                intro Y hY
                obtain rfl := hY.out
                clear hY
                have BY := Lib.hid B10.out
                have HY := Lib.hid (fun q => HV10.out.keep (ext_below _ q))
                try simp only [Act.put]
                repeat (go_big_quiet_step ((first
                  | (go_at_call 13; with_reducible exact ext_of (Rgt.out _ ((Ht.out.keep BY.out).keep (ext_below _ _)) (HY.out _))))))
                refine wpQuiet_nil ?_
                intro w11 hw11
                obtain ⟨p11, rfl⟩ := hw11
                have B11 := Lib.hid (BY.out.trans ((ext_below _ p11).mono BY.out.size))
                go_wp2_with fail
                go_ret
                exact ⟨rfl, B11.out⟩
            · go_wp2_with fail
              go_region_law (first
                | (refine (if_pos (by rfl)).mpr ?_; refine wp_append_any _ _ _ 22 rfl w6.heap.size 26 ii z5 5 40 Try.underlying22 Hi5.out Hz0.out Hz1.out Hz2.out rfl (by decide) (.slice a7 (n - qk) c7) (n - qk) _ rfl R7.out (some ad) qk cap (flV (l.take qk)) rfl HL2.out (fun e => by cases e) (rowV_cells ((HR6.out.keep D7.out).take (by omega))) flV_cells (by unfold maxLen; omega) (by omega) D7.out.size ?_; intro v8 w8 hown8 hgrow8; rw [HE8.out, HF8.out] at hown8; obtain ⟨a8, c8, rfl, hc8, hn8⟩ := own_shape hown8; have R8 := Lib.hid hown8; have D8 := Lib.hid (D7.out.grown hgrow8 D7.out.size (fun k e => (R7.out.lt k e).1)); clear hown8 hgrow8)
                | (refine (if_pos (by rfl)).mpr ?_; refine wp_append_any _ _ _ 22 rfl w6.heap.size 26 ii z5 5 40 Try.underlying22 Hi5.out Hz0.out Hz1.out Hz2.out rfl (by decide) (.slice (some ⟨w6.heap.size, 0, none⟩) 0 0) 0 (flV []) rfl (own_keep (new_ownV w6) (Below.refl _ _).drew) (some (ad.add (qk * 5))) (n - qk) (cap - qk) (flV (l.drop qk)) rfl HL1.out (fun e => by cases e) (rowV_cells ((HR6.out.keep BD.out).tail (by omega))) flV_cells (by unfold maxLen; omega) (by omega) (by simp) ?_; intro v7 w7 hown7 hgrow7; rw [Nat.zero_add] at hown7; obtain ⟨a7, c7, rfl, hc7, hn7⟩ := own_shape hown7; have R7 := Lib.hid hown7; have D7 := Lib.hid (BD.out.grown hgrow7 BD.out.size (fun k e => by cases e; exact Nat.le_refl _)); clear hown7 hgrow7))
              have B8 := Lib.hid (B6.out.trans (D8.out.mono B6.out.size))
              clear BD D7 R7 HL1 HL2 HE8 HF8
              go_wp2_with fail
              go_loopw [24] (fun i wr => ∃ (k2 : Nat) (d : List Dv), k2 ≤ n ∧ i = .int .i64 k2 ∧ d.length = n ∧ (∀ j, j < k2 → d[j]! = sw ((po : Int) - 1) ((pl : Int) - 1) (rot l qk)[j]!) ∧ (∀ j, k2 ≤ j → j < n → d[j]! = (rot l qk)[j]!) ∧ wr.ownsRow w6.heap.size 26 5 (.slice a8 n c8) n (flV d) ∧ Below w6.heap.size w6 wr) (fun i _ => n - (intOf i).toNat)
              case atStart => exact ⟨0, rot l qk, Nat.zero_le _, rfl, HRL.out, fun j hj => by omega, fun j _ _ => rfl, R8.out, D8.out⟩
              case round =>
              obtain ⟨k2, d, hk2, rfl, hd1, hd2, hd3, hown, hb⟩ := hrel
              have Hd1 := Lib.hid hd1
              have Hd2 := Lib.hid hd2
              have Hd3 := Lib.hid hd3
              have Hown := Lib.hid hown
              have Hb8 := Lib.hid hb
              clear hd1 hd2 hd3 hown hb R8 D8
              by_cases hlt2 : k2 < n
              · obtain ⟨g8, rfl⟩ := own_some Hown.out (.inl (by omega))
                obtain ⟨cur, u1, u2, u3, u4, u5, u6⟩ := own_blk Hown.out
                obtain ⟨v3, hv3⟩ : ∃ v, cur[k2 * 5 + 3]? = some v := ⟨cur[k2 * 5 + 3]'(by omega), List.getElem?_eq_getElem (by omega)⟩
                obtain ⟨v4, hv4⟩ : ∃ v, (cur.set (k2 * 5 + 3) (.int .i64 ((po : Int) - 1)))[k2 * 5 + 4]? = some v := ⟨(cur.set (k2 * 5 + 3) (.int .i64 ((po : Int) - 1)))[k2 * 5 + 4]'(by rw [List.length_set]; omega), List.getElem?_eq_getElem (by rw [List.length_set]; omega)⟩
                have e3 := u1.at (k2 * 5 + 3) hv3
                have f3 := u1.frozen (k2 * 5 + 3)
                have e4 := (u1.set (k2 * 5 + 3) (.int .i64 ((po : Int) - 1))).at (k2 * 5 + 4) hv4
                have f4 := (u1.set (k2 * 5 + 3) (.int .i64 ((po : Int) - 1))).frozen (k2 * 5 + 4)
                have HS := Lib.hid (sw_step (O := (po : Int) - 1) (L := (pl : Int) - 1) HRL.out Hd1.out hlt2 Hd2.out Hd3.out)
                have HW := Lib.hid (own_sw (O := (po : Int) - 1) (L := (pl : Int) - 1) Hown.out Hd1.out hlt2)
                have HB9 := Lib.hid ((Hb8.out.setCell (p := ⟨g8, k2 * 5 + 3, none⟩) u6 (.int .i64 ((po : Int) - 1))).setCell (p := ⟨g8, k2 * 5 + 4, none⟩) u6 (.int .i64 ((pl : Int) - 1)))
                have j1 : (0 : Int) ≤ (k2 : Int) := by omega
                have j2 : (k2 : Int) < (n : Int) := by omega
                clear u1 u2 u3 u4 u5 u6 hv3 hv4
                go_wp2_with fail
                refine (PO.out _).mono ?_
                rintro e w9 ⟨rfl, rfl⟩
                go_wp2_with fail
                refine (PL.out _).mono ?_
                rintro e w9 ⟨rfl, rfl⟩
                go_wp2_with fail
                exact ⟨⟨k2 + 1, _, by omega, by go_num, HS.out.1, HS.out.2.1, HS.out.2.2, HW.out, HB9.out⟩, by simp [intOf]; omega⟩
              · have hkn2 := Lib.hid (show k2 = n by omega)
                have HA8 := Lib.hid (rot_all (l := l) (m := d) (a := ⟨W2, r2, A, S, D⟩) (k := qk) (O := (po : Int) - 1) (L := (pl : Int) - 1) Hrow.out (by rw [Hr.out.1]; omega) ⟨by omega, by omega⟩ ⟨by omega, by omega⟩ (by rw [Hd1.out, Hr.out.1]) (fun i hi => Hd2.out i (by rw [hkn2.out, ← Hr.out.1]; exact hi)))
                have HV := Lib.hid (rowV_of_own Hd1.out (fun j hj => by
                  rw [Hd2.out j (by rw [hkn2.out]; exact hj)]
                  have := Hok6.out j hj
                  exact ⟨this.1, this.2.1, this.2.2.1, ⟨by show _ ≤ (po : Int) - 1; omega, by show (po : Int) - 1 ≤ _; omega⟩, ⟨by show _ ≤ (pl : Int) - 1; omega, by show (pl : Int) - 1 ≤ _; omega⟩⟩) Hown.out)
                obtain ⟨i9, hi9⟩ : ∃ i, (dcd d ⟨W2, r2, A, S, D⟩).getD 0 = i := ⟨_, rfl⟩
                have Hi9 := Lib.hid hi9
                have F9 := Lib.hid (F6.out.keep (by have := Hb8.out; exact this))
                have B9 := Lib.hid (B6.out.trans (Hb8.out.mono B6.out.size))
                have Dec := Lib.hid (fun w (h1 : WT w) (h2 : RowV w a8 n d) => Decode_any a8 n c8 d W2 r2 A S D i9 0 false w (by omega) hc8 hA hA' hD hD' h1 h2 hi9 (by rw [HA8.out.2.2.1]; exact Ho.out) (by rw [HA8.out.2.1]; exact Hbb.out))
                have Rgt := Lib.hid (fun w (h1 : WT w) (h2 : RowV w a8 n d) => Right_any a8 n c8 d true w (by omega) hc8 h1 h2 HA8.out.1)
                obtain ⟨q0, q1, q2, q3, q4⟩ := F9.out
                clear hi9 F6
                go_wp2_with fail
                refine (Dec.out _ (Ht.out.keep B9.out) HV.out).mono ?_
                rintro e w10 ⟨rfl, hb10⟩
                have B10 := Lib.hid (B9.out.trans (hb10.mono B9.out.size))
                have HV10 := Lib.hid (HV.out.keep hb10)
                clear hb10 q0 q1 q2 q3 q4 Dec
                go_wp2_with fail
                refine wp_region_ext (by kernel_rfl) (by kernel_rfl) ?_
                intro Y hY
                obtain rfl := hY.out
                clear hY
                have BY := Lib.hid B10.out
                have HY := Lib.hid (fun q => HV10.out.keep (ext_below _ q))
                try simp only [Act.put]
                repeat (go_big_quiet_step ((first
                  | (go_at_call 13; with_reducible exact ext_of (Rgt.out _ ((Ht.out.keep BY.out).keep (ext_below _ _)) (HY.out _))))))
                refine wpQuiet_nil ?_
                intro w11 hw11
                obtain ⟨p11, rfl⟩ := hw11
                have B11 := Lib.hid (BY.out.trans ((ext_below _ p11).mono BY.out.size))
                go_wp2_with fail
                go_ret
                exact ⟨rfl, B11.out⟩
        | true =>
          have HJN0 := (dcd_some Hbb.out).2.2.1
          rw [Hi.out, Hr.out.1] at HJN0
          obtain ⟨rfl, hjj⟩ := hHA rfl
          obtain rfl : j = i0 := hjj
          have HJN := Lib.hid HJN0
          clear HJN0
          obtain rfl : mv = 1 := hcn
          go_wp2_with fail
          refine (At.out _ (Ht.out.keep B5.out) (Hr.out.keep B5.out)).mono ?_
          rintro e w6 ⟨rfl, hb6⟩
          have B6 := Lib.hid (B5.out.trans (hb6.mono B5.out.size))
          have F6 := Lib.hid (F5.out.keep hb6)
          clear hb6 F5 B5 q0 q1 q2 q3 q4 At
          go_wp2_with fail
          refine (Pk.out _).mono ?_
          rintro e w7 ⟨rfl, rfl⟩
          have HR6 := Lib.hid (Hr.out.keep B6.out)
          have i1 : (0 : Int) ≤ (qk : Int) := by omega
          have i2 : (qk : Int) ≤ (n : Int) := by omega
          have i3 : (qk : Int) ≤ (cap : Int) := by omega
          have i4 : (n : Int) ≤ (cap : Int) := by omega
          obtain ⟨ii, hi, hz0, hz1, hz2⟩ := info_parts KitDevices.info_e
          have Hi5 := Lib.hid hi
          have Hz0 := Lib.hid hz0
          have Hz1 := Lib.hid hz1
          have Hz2 := Lib.hid hz2
          have BD := Lib.hid (show Below w6.heap.size w6 (w6.alloc (.cells #[] 26)).drew from ((Below.refl w6.heap.size w6).alloc (Nat.le_refl _) _).drew)
          have HL1 := Lib.hid (show (flV (l.drop qk)).length = (n - qk) * 5 by rw [flV_len, List.length_drop, Hr.out.1])
          have HL2 := Lib.hid (show (flV (l.take qk)).length = qk * 5 by rw [flV_len, List.length_take, Hr.out.1, Nat.min_eq_left (by omega)])
          have HE8 := Lib.hid (show n - qk + qk = n by omega)
          have HF8 := Lib.hid (show flV [] ++ flV (l.drop qk) ++ flV (l.take qk) = flV (rot l qk) by unfold rot; rw [flV_append]; rfl)
          have Hok6 := Lib.hid (show ∀ j, j < n → okD (rot l qk)[j]! from fun j hj => by
            rw [rot_get (by rw [Hr.out.1]; omega) (by rw [Hr.out.1]; exact hj), Hr.out.1]
            exact Hr.out.2.1 _ (sg_lt (by omega) hj))
          have HRL := Lib.hid (show (rot l qk).length = n by rw [rot_len]; exact Hr.out.1)
          obtain ⟨po, hpo, PO⟩ := pick_is ow 9 (by omega) (by omega)
          obtain ⟨pl, hpl, PL⟩ := pick_is li 9 (by omega) (by omega)
          have PO := Lib.hid PO
          have PL := Lib.hid PL
          have wf1 : (po : Int) < 9 := by omega
          have wf2 : (pl : Int) < 9 := by omega
          clear hi hz0 hz1 hz2
          cases a with
          | none =>
            exact absurd (Hno.out rfl).1 (by have := HJN.out; omega)
          | some ad =>
            by_cases hq : cap = qk
            · obtain rfl : qk = cap := hq.symm
              obtain rfl : qk = n := by omega
              rw [Nat.sub_self] at HL1 HE8
              go_wp2_with fail
              go_region_law (first
                | (refine (if_pos (by rfl)).mpr ?_; refine wp_append_any _ _ _ 22 rfl w6.heap.size 26 ii z5 5 40 Try.underlying22 Hi5.out Hz0.out Hz1.out Hz2.out rfl (by decide) (.slice a7 0 c7) 0 _ rfl R7.out (some ad) qk qk (flV (l.take qk)) rfl HL2.out (fun e => by cases e) (rowV_cells ((HR6.out.keep D7.out).take (by omega))) flV_cells (by unfold maxLen; omega) (by omega) D7.out.size ?_; intro v8 w8 hown8 hgrow8; rw [HE8.out, HF8.out] at hown8; obtain ⟨a8, c8, rfl, hc8, hn8⟩ := own_shape hown8; have R8 := Lib.hid hown8; have D8 := Lib.hid (D7.out.grown hgrow8 D7.out.size (fun k e => (R7.out.lt k e).1)); clear hown8 hgrow8)
                | (refine (if_pos (by rfl)).mpr ?_; refine wp_append_any _ _ _ 22 rfl w6.heap.size 26 ii z5 5 40 Try.underlying22 Hi5.out Hz0.out Hz1.out Hz2.out rfl (by decide) (.slice (some ⟨w6.heap.size, 0, none⟩) 0 0) 0 (flV []) rfl (own_keep (new_ownV w6) (Below.refl _ _).drew) (some ad) 0 0 (flV (l.drop qk)) rfl HL1.out (fun e => by cases e) (rowV_cells ((HR6.out.keep BD.out).tail0 (by omega))) flV_cells (by unfold maxLen; omega) (by omega) (by simp) ?_; intro v7 w7 hown7 hgrow7; rw [Nat.zero_add] at hown7; obtain ⟨a7, c7, rfl, hc7, hn7⟩ := own_shape hown7; have R7 := Lib.hid hown7; have D7 := Lib.hid (BD.out.grown hgrow7 BD.out.size (fun k e => by cases e; exact Nat.le_refl _)); clear hown7 hgrow7))
              have B8 := Lib.hid (B6.out.trans (D8.out.mono B6.out.size))
              clear BD D7 R7 HL1 HL2 HE8 HF8
              go_wp2_with fail
              go_loopw [24] (fun i wr => ∃ (k2 : Nat) (d : List Dv), k2 ≤ qk ∧ i = .int .i64 k2 ∧ d.length = qk ∧ (∀ j, j < k2 → d[j]! = sw ((po : Int) - 1) ((pl : Int) - 1) (rot l qk)[j]!) ∧ (∀ j, k2 ≤ j → j < qk → d[j]! = (rot l qk)[j]!) ∧ wr.ownsRow w6.heap.size 26 5 (.slice a8 qk c8) qk (flV d) ∧ Below w6.heap.size w6 wr) (fun i _ => qk - (intOf i).toNat)
              case atStart => exact ⟨0, rot l qk, Nat.zero_le _, rfl, HRL.out, fun j hj => by omega, fun j _ _ => rfl, R8.out, D8.out⟩
              case round =>
              obtain ⟨k2, d, hk2, rfl, hd1, hd2, hd3, hown, hb⟩ := hrel
              have Hd1 := Lib.hid hd1
              have Hd2 := Lib.hid hd2
              have Hd3 := Lib.hid hd3
              have Hown := Lib.hid hown
              have Hb8 := Lib.hid hb
              clear hd1 hd2 hd3 hown hb R8 D8
              by_cases hlt2 : k2 < qk
              · obtain ⟨g8, rfl⟩ := own_some Hown.out (.inl (by omega))
                obtain ⟨cur, u1, u2, u3, u4, u5, u6⟩ := own_blk Hown.out
                obtain ⟨v3, hv3⟩ : ∃ v, cur[k2 * 5 + 3]? = some v := ⟨cur[k2 * 5 + 3]'(by omega), List.getElem?_eq_getElem (by omega)⟩
                obtain ⟨v4, hv4⟩ : ∃ v, (cur.set (k2 * 5 + 3) (.int .i64 ((po : Int) - 1)))[k2 * 5 + 4]? = some v := ⟨(cur.set (k2 * 5 + 3) (.int .i64 ((po : Int) - 1)))[k2 * 5 + 4]'(by rw [List.length_set]; omega), List.getElem?_eq_getElem (by rw [List.length_set]; omega)⟩
                have e3 := u1.at (k2 * 5 + 3) hv3
                have f3 := u1.frozen (k2 * 5 + 3)
                have e4 := (u1.set (k2 * 5 + 3) (.int .i64 ((po : Int) - 1))).at (k2 * 5 + 4) hv4
                have f4 := (u1.set (k2 * 5 + 3) (.int .i64 ((po : Int) - 1))).frozen (k2 * 5 + 4)
                have HS := Lib.hid (sw_step (O := (po : Int) - 1) (L := (pl : Int) - 1) HRL.out Hd1.out hlt2 Hd2.out Hd3.out)
                have HW := Lib.hid (own_sw (O := (po : Int) - 1) (L := (pl : Int) - 1) Hown.out Hd1.out hlt2)
                have HB9 := Lib.hid ((Hb8.out.setCell (p := ⟨g8, k2 * 5 + 3, none⟩) u6 (.int .i64 ((po : Int) - 1))).setCell (p := ⟨g8, k2 * 5 + 4, none⟩) u6 (.int .i64 ((pl : Int) - 1)))
                have j1 : (0 : Int) ≤ (k2 : Int) := by omega
                have j2 : (k2 : Int) < (qk : Int) := by omega
                clear u1 u2 u3 u4 u5 u6 hv3 hv4
                go_wp2_with fail
                refine (PO.out _).mono ?_
                rintro e w9 ⟨rfl, rfl⟩
                go_wp2_with fail
                refine (PL.out _).mono ?_
                rintro e w9 ⟨rfl, rfl⟩
                go_wp2_with fail
                exact ⟨⟨k2 + 1, _, by omega, by go_num, HS.out.1, HS.out.2.1, HS.out.2.2, HW.out, HB9.out⟩, by simp [intOf]; omega⟩
              · have hkn2 := Lib.hid (show k2 = qk by omega)
                have HA8 := Lib.hid (rot_all (l := l) (m := d) (a := ⟨W2, r2, A, S, D⟩) (k := qk) (O := (po : Int) - 1) (L := (pl : Int) - 1) Hrow.out (by rw [Hr.out.1]; omega) ⟨by omega, by omega⟩ ⟨by omega, by omega⟩ (by rw [Hd1.out, Hr.out.1]) (fun i hi => Hd2.out i (by rw [hkn2.out, ← Hr.out.1]; exact hi)))
                have HV := Lib.hid (rowV_of_own Hd1.out (fun j hj => by
                  rw [Hd2.out j (by rw [hkn2.out]; exact hj)]
                  have := Hok6.out j hj
                  exact ⟨this.1, this.2.1, this.2.2.1, ⟨by show _ ≤ (po : Int) - 1; omega, by show (po : Int) - 1 ≤ _; omega⟩, ⟨by show _ ≤ (pl : Int) - 1; omega, by show (pl : Int) - 1 ≤ _; omega⟩⟩) Hown.out)
                obtain ⟨i9, hi9⟩ : ∃ i, (dcd d ⟨W2, r2, A, S, D⟩).getD 0 = i := ⟨_, rfl⟩
                have Hi9 := Lib.hid hi9
                have F9 := Lib.hid (F6.out.keep (by have := Hb8.out; exact this))
                have B9 := Lib.hid (B6.out.trans (Hb8.out.mono B6.out.size))
                have Dec := Lib.hid (fun w (h1 : WT w) (h2 : RowV w a8 qk d) => Decode_any a8 qk c8 d W2 r2 A S D i9 o true w (by omega) hc8 hA hA' hD hD' h1 h2 hi9 (by rw [HA8.out.2.2.1]; exact Ho.out) (by rw [HA8.out.2.1]; exact Hbb.out))
                have Rgt := Lib.hid (fun w (h1 : WT w) (h2 : RowV w a8 qk d) => Right_any a8 qk c8 d true w (by omega) hc8 h1 h2 HA8.out.1)
                obtain ⟨q0, q1, q2, q3, q4⟩ := F9.out
                clear hi9 F6
                go_wp2_with fail
                refine (Dec.out _ (Ht.out.keep B9.out) HV.out).mono ?_
                rintro e w10 ⟨rfl, hb10⟩
                have B10 := Lib.hid (B9.out.trans (hb10.mono B9.out.size))
                have HV10 := Lib.hid (HV.out.keep hb10)
                have hil := HA8.out.2.2.2 (by rw [HA8.out.2.1]; exact Hbb.out)
                rw [Hi9.out, Hr.out.1, Hi.out] at hil
                obtain ⟨g9, rfl⟩ := own_some Hown.out (.inl (by omega))
                obtain ⟨b9, f9, e9, c9⟩ := HV10.out.2.2 i9 hil.1
                obtain ⟨rfl, rfl⟩ : g9 = b9 ∧ 0 = f9 := by cases e9; exact ⟨rfl, rfl⟩
                obtain ⟨b8, f8, e8, c8'⟩ := HR6.out.2.2 j HJN.out
                have c8' := c8'.keep (Hb8.out.trans (hb10.mono Hb8.out.size))
                obtain rfl := Option.some.inj e8
                rw [Nat.zero_add] at c9
                have C9 := Lib.hid c9.c1
                have C8 := Lib.hid c8'.c1
                have qB : (d[i9]!.B == l[j]!.B) = true := by rw [hil.2]; simp
                obtain ⟨x9, hx9⟩ : ∃ x, d[i9]!.B = x := ⟨_, rfl⟩
                obtain ⟨x8, hx8⟩ : ∃ x, l[j]!.B = x := ⟨_, rfl⟩
                rw [hx9] at C9 qB
                rw [hx8] at C8 qB
                have j3 : decide ((i9 : Int) < 0) = false := decide_eq_false (by omega)
                have j4 : (i9 : Int) < (qk : Int) := by omega
                have j5 : (0 : Int) ≤ (i9 : Int) := by omega
                have j6 : (0 : Int) ≤ (j : Int) := by omega
                have j7 : (j : Int) < (qk : Int) := by have := HJN.out; omega
                have j8 : decide ((qk : Int) ≤ (i9 : Int)) = false := decide_eq_false (by omega)
                have j9 := hil.1
                have j10 := HJN.out
                clear c9 c8' e9 hx9 hx8 hil
                clear hb10 q0 q1 q2 q3 q4 Dec
                go_wp2_with fail
                refine wp_region_ext (by kernel_rfl) (by kernel_rfl) ?_
                intro Y hY
                obtain rfl := hY.out
                clear hY
                have BY := Lib.hid B10.out
                have HY := Lib.hid (fun q => HV10.out.keep (ext_below _ q))
                have y9 := ext_cell C9.out
                have y8 := ext_cell C8.out
                try simp only [Act.put]
                repeat (go_big_quiet_step ((first
                  | (go_at_call 13; with_reducible exact ext_of (Rgt.out _ ((Ht.out.keep BY.out).keep (ext_below _ _)) (HY.out _))))))
                refine wpQuiet_nil ?_
                intro w11 hw11
                obtain ⟨p11, rfl⟩ := hw11
                have B11 := Lib.hid (BY.out.trans ((ext_below _ p11).mono BY.out.size))
                go_wp2_with fail
                go_ret
                exact ⟨rfl, B11.out⟩
            · go_wp2_with fail
              go_region_law (first
                | (refine (if_pos (by rfl)).mpr ?_; refine wp_append_any _ _ _ 22 rfl w6.heap.size 26 ii z5 5 40 Try.underlying22 Hi5.out Hz0.out Hz1.out Hz2.out rfl (by decide) (.slice a7 (n - qk) c7) (n - qk) _ rfl R7.out (some ad) qk cap (flV (l.take qk)) rfl HL2.out (fun e => by cases e) (rowV_cells ((HR6.out.keep D7.out).take (by omega))) flV_cells (by unfold maxLen; omega) (by omega) D7.out.size ?_; intro v8 w8 hown8 hgrow8; rw [HE8.out, HF8.out] at hown8; obtain ⟨a8, c8, rfl, hc8, hn8⟩ := own_shape hown8; have R8 := Lib.hid hown8; have D8 := Lib.hid (D7.out.grown hgrow8 D7.out.size (fun k e => (R7.out.lt k e).1)); clear hown8 hgrow8)
                | (refine (if_pos (by rfl)).mpr ?_; refine wp_append_any _ _ _ 22 rfl w6.heap.size 26 ii z5 5 40 Try.underlying22 Hi5.out Hz0.out Hz1.out Hz2.out rfl (by decide) (.slice (some ⟨w6.heap.size, 0, none⟩) 0 0) 0 (flV []) rfl (own_keep (new_ownV w6) (Below.refl _ _).drew) (some (ad.add (qk * 5))) (n - qk) (cap - qk) (flV (l.drop qk)) rfl HL1.out (fun e => by cases e) (rowV_cells ((HR6.out.keep BD.out).tail (by omega))) flV_cells (by unfold maxLen; omega) (by omega) (by simp) ?_; intro v7 w7 hown7 hgrow7; rw [Nat.zero_add] at hown7; obtain ⟨a7, c7, rfl, hc7, hn7⟩ := own_shape hown7; have R7 := Lib.hid hown7; have D7 := Lib.hid (BD.out.grown hgrow7 BD.out.size (fun k e => by cases e; exact Nat.le_refl _)); clear hown7 hgrow7))
              have B8 := Lib.hid (B6.out.trans (D8.out.mono B6.out.size))
              clear BD D7 R7 HL1 HL2 HE8 HF8
              go_wp2_with fail
              go_loopw [24] (fun i wr => ∃ (k2 : Nat) (d : List Dv), k2 ≤ n ∧ i = .int .i64 k2 ∧ d.length = n ∧ (∀ j, j < k2 → d[j]! = sw ((po : Int) - 1) ((pl : Int) - 1) (rot l qk)[j]!) ∧ (∀ j, k2 ≤ j → j < n → d[j]! = (rot l qk)[j]!) ∧ wr.ownsRow w6.heap.size 26 5 (.slice a8 n c8) n (flV d) ∧ Below w6.heap.size w6 wr) (fun i _ => n - (intOf i).toNat)
              case atStart => exact ⟨0, rot l qk, Nat.zero_le _, rfl, HRL.out, fun j hj => by omega, fun j _ _ => rfl, R8.out, D8.out⟩
              case round =>
              obtain ⟨k2, d, hk2, rfl, hd1, hd2, hd3, hown, hb⟩ := hrel
              have Hd1 := Lib.hid hd1
              have Hd2 := Lib.hid hd2
              have Hd3 := Lib.hid hd3
              have Hown := Lib.hid hown
              have Hb8 := Lib.hid hb
              clear hd1 hd2 hd3 hown hb R8 D8
              by_cases hlt2 : k2 < n
              · obtain ⟨g8, rfl⟩ := own_some Hown.out (.inl (by omega))
                obtain ⟨cur, u1, u2, u3, u4, u5, u6⟩ := own_blk Hown.out
                obtain ⟨v3, hv3⟩ : ∃ v, cur[k2 * 5 + 3]? = some v := ⟨cur[k2 * 5 + 3]'(by omega), List.getElem?_eq_getElem (by omega)⟩
                obtain ⟨v4, hv4⟩ : ∃ v, (cur.set (k2 * 5 + 3) (.int .i64 ((po : Int) - 1)))[k2 * 5 + 4]? = some v := ⟨(cur.set (k2 * 5 + 3) (.int .i64 ((po : Int) - 1)))[k2 * 5 + 4]'(by rw [List.length_set]; omega), List.getElem?_eq_getElem (by rw [List.length_set]; omega)⟩
                have e3 := u1.at (k2 * 5 + 3) hv3
                have f3 := u1.frozen (k2 * 5 + 3)
                have e4 := (u1.set (k2 * 5 + 3) (.int .i64 ((po : Int) - 1))).at (k2 * 5 + 4) hv4
                have f4 := (u1.set (k2 * 5 + 3) (.int .i64 ((po : Int) - 1))).frozen (k2 * 5 + 4)
                have HS := Lib.hid (sw_step (O := (po : Int) - 1) (L := (pl : Int) - 1) HRL.out Hd1.out hlt2 Hd2.out Hd3.out)
                have HW := Lib.hid (own_sw (O := (po : Int) - 1) (L := (pl : Int) - 1) Hown.out Hd1.out hlt2)
                have HB9 := Lib.hid ((Hb8.out.setCell (p := ⟨g8, k2 * 5 + 3, none⟩) u6 (.int .i64 ((po : Int) - 1))).setCell (p := ⟨g8, k2 * 5 + 4, none⟩) u6 (.int .i64 ((pl : Int) - 1)))
                have j1 : (0 : Int) ≤ (k2 : Int) := by omega
                have j2 : (k2 : Int) < (n : Int) := by omega
                clear u1 u2 u3 u4 u5 u6 hv3 hv4
                go_wp2_with fail
                refine (PO.out _).mono ?_
                rintro e w9 ⟨rfl, rfl⟩
                go_wp2_with fail
                refine (PL.out _).mono ?_
                rintro e w9 ⟨rfl, rfl⟩
                go_wp2_with fail
                exact ⟨⟨k2 + 1, _, by omega, by go_num, HS.out.1, HS.out.2.1, HS.out.2.2, HW.out, HB9.out⟩, by simp [intOf]; omega⟩
              · have hkn2 := Lib.hid (show k2 = n by omega)
                have HA8 := Lib.hid (rot_all (l := l) (m := d) (a := ⟨W2, r2, A, S, D⟩) (k := qk) (O := (po : Int) - 1) (L := (pl : Int) - 1) Hrow.out (by rw [Hr.out.1]; omega) ⟨by omega, by omega⟩ ⟨by omega, by omega⟩ (by rw [Hd1.out, Hr.out.1]) (fun i hi => Hd2.out i (by rw [hkn2.out, ← Hr.out.1]; exact hi)))
                have HV := Lib.hid (rowV_of_own Hd1.out (fun j hj => by
                  rw [Hd2.out j (by rw [hkn2.out]; exact hj)]
                  have := Hok6.out j hj
                  exact ⟨this.1, this.2.1, this.2.2.1, ⟨by show _ ≤ (po : Int) - 1; omega, by show (po : Int) - 1 ≤ _; omega⟩, ⟨by show _ ≤ (pl : Int) - 1; omega, by show (pl : Int) - 1 ≤ _; omega⟩⟩) Hown.out)
                obtain ⟨i9, hi9⟩ : ∃ i, (dcd d ⟨W2, r2, A, S, D⟩).getD 0 = i := ⟨_, rfl⟩
                have Hi9 := Lib.hid hi9
                have F9 := Lib.hid (F6.out.keep (by have := Hb8.out; exact this))
                have B9 := Lib.hid (B6.out.trans (Hb8.out.mono B6.out.size))
                have Dec := Lib.hid (fun w (h1 : WT w) (h2 : RowV w a8 n d) => Decode_any a8 n c8 d W2 r2 A S D i9 o true w (by omega) hc8 hA hA' hD hD' h1 h2 hi9 (by rw [HA8.out.2.2.1]; exact Ho.out) (by rw [HA8.out.2.1]; exact Hbb.out))
                have Rgt := Lib.hid (fun w (h1 : WT w) (h2 : RowV w a8 n d) => Right_any a8 n c8 d true w (by omega) hc8 h1 h2 HA8.out.1)
                obtain ⟨q0, q1, q2, q3, q4⟩ := F9.out
                clear hi9 F6
                go_wp2_with fail
                refine (Dec.out _ (Ht.out.keep B9.out) HV.out).mono ?_
                rintro e w10 ⟨rfl, hb10⟩
                have B10 := Lib.hid (B9.out.trans (hb10.mono B9.out.size))
                have HV10 := Lib.hid (HV.out.keep hb10)
                have hil := HA8.out.2.2.2 (by rw [HA8.out.2.1]; exact Hbb.out)
                rw [Hi9.out, Hr.out.1, Hi.out] at hil
                obtain ⟨g9, rfl⟩ := own_some Hown.out (.inl (by omega))
                obtain ⟨b9, f9, e9, c9⟩ := HV10.out.2.2 i9 hil.1
                obtain ⟨rfl, rfl⟩ : g9 = b9 ∧ 0 = f9 := by cases e9; exact ⟨rfl, rfl⟩
                obtain ⟨b8, f8, e8, c8'⟩ := HR6.out.2.2 j HJN.out
                have c8' := c8'.keep (Hb8.out.trans (hb10.mono Hb8.out.size))
                obtain rfl := Option.some.inj e8
                rw [Nat.zero_add] at c9
                have C9 := Lib.hid c9.c1
                have C8 := Lib.hid c8'.c1
                have qB : (d[i9]!.B == l[j]!.B) = true := by rw [hil.2]; simp
                obtain ⟨x9, hx9⟩ : ∃ x, d[i9]!.B = x := ⟨_, rfl⟩
                obtain ⟨x8, hx8⟩ : ∃ x, l[j]!.B = x := ⟨_, rfl⟩
                rw [hx9] at C9 qB
                rw [hx8] at C8 qB
                have j3 : decide ((i9 : Int) < 0) = false := decide_eq_false (by omega)
                have j4 : (i9 : Int) < (n : Int) := by omega
                have j5 : (0 : Int) ≤ (i9 : Int) := by omega
                have j6 : (0 : Int) ≤ (j : Int) := by omega
                have j7 : (j : Int) < (n : Int) := by have := HJN.out; omega
                have j8 : decide ((n : Int) ≤ (i9 : Int)) = false := decide_eq_false (by omega)
                have j9 := hil.1
                have j10 := HJN.out
                clear c9 c8' e9 hx9 hx8 hil
                clear hb10 q0 q1 q2 q3 q4 Dec
                go_wp2_with fail
                refine wp_region_ext (by kernel_rfl) (by kernel_rfl) ?_
                intro Y hY
                obtain rfl := hY.out
                clear hY
                have BY := Lib.hid B10.out
                have HY := Lib.hid (fun q => HV10.out.keep (ext_below _ q))
                have y9 := ext_cell C9.out
                have y8 := ext_cell C8.out
                try simp only [Act.put]
                repeat (go_big_quiet_step ((first
                  | (go_at_call 13; with_reducible exact ext_of (Rgt.out _ ((Ht.out.keep BY.out).keep (ext_below _ _)) (HY.out _))))))
                refine wpQuiet_nil ?_
                intro w11 hw11
                obtain ⟨p11, rfl⟩ := hw11
                have B11 := Lib.hid (BY.out.trans ((ext_below _ p11).mono BY.out.size))
                go_wp2_with fail
                go_ret
                exact ⟨rfl, B11.out⟩
  · have d1 : decide ((100 : Int) < (n : Int)) = true := decide_eq_true (by omega)
    go_enter Try.func5, Try.ntmps5
    go_wp2_with fail
    refine (awake_any _ (Ht.out.keep B0.out)).mono ?_
    rintro e w1 ⟨rfl, hb1⟩
    have B1 := Lib.hid (B0.out.trans (hb1.mono B0.out.size))
    clear hb1
    go_wp2_with fail
    go_ret
    exact ⟨rfl, B1.out⟩
theorem wone_walk (a : Option Addr) (n cap : Nat) (l : List Dv) (W2 : Int) (r2 : Bool) (A S D : Int) (m ow li : Int) (w : World) (h : RowV w a n l) (hno : a = none → n = 0 ∧ cap = 0) (hc : n ≤ cap) (hm : n ≤ maxLen)
    (hW2 : (Lit.int .i64 W2).wf = true) (hA : (Lit.int .u32 A).wf = true) (hS : (Lit.int .i64 S).wf = true) (hD : (Lit.int .u32 D).wf = true) (h2 : (Lit.int .i64 m).wf = true) (h3 : (Lit.int .i64 ow).wf = true) (h4 : (Lit.int .i64 li).wf = true) :
    Calls Try.prog 5 #[.slice a n cap, acc W2 r2 A S D, .int .i64 m, .int .i64 ow, .int .i64 li] w fun e w' => e = .returned (.bool true) ∧ Below w.heap.size w w' :=
  wone_of a n cap l W2 r2 A S D m ow li w h hno hc hm (bd32 hA).1 (bd32 hA).2 (bd32 hD).1 (bd32 hD).2 trivial
end Go.Proofs.Ytfpammfcchboaaa.Win
