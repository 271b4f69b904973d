/- What is told of a device, of a row, is what the document tells; awake; the walk of WindowAsks. -/
import Derived.Test.YtfpammfcchboaaaVw
import Derived.Test.YtfpammfcchboaaaVe
namespace Go.Proofs.Ytfpammfcchboaaa.Win
open Go.RowKit Fifo Go.Maps Go.ChangeShapes Go.WideShapes Go.ChangeAt Go.Proofs.Ytfpammfcchboaaa.Access
open Go.Proofs.Ytfpammfcchboaaa.Orow (own_keep own_only own_mono own_blk own_lt own_shape)
open Go.Proofs.Ytfpammfcchboaaa.Reach (Two two_new alloc_keep)
set_option linter.unusedVariables false

theorem below_new {w : World} (o : Obj) : Below w.heap.size w (w.alloc o) := (Below.refl w.heap.size w).alloc (Nat.le_refl _) o
set_option maxRecDepth 100000 in
set_option maxHeartbeats 2000000 in
theorem one_any (k B S O L : Int) (w : World) (hk : -9223372036854775808 ≤ k) (hk' : k ≤ 9223372036854775807) (hB : 0 ≤ B) (hB' : B < 4294967296) (hS : -9223372036854775808 ≤ S) (hS' : S ≤ 9223372036854775807) (ht : WT w) :
    Calls Try.prog 9 #[dv k B S O L] w fun e w' => e = .returned (.bool true) ∧ Below w.heap.size w w' := by
  obtain ⟨b, hb⟩ : ∃ b, devV k B S O L = b := ⟨_, rfl⟩
  obtain ⟨x, hx⟩ : ∃ x, winF b B = x := ⟨_, rfl⟩
  obtain ⟨y, hy⟩ : ∃ y, winT b B S = y := ⟨_, rfl⟩
  obtain ⟨g, hg⟩ : ∃ g, w.heap.size = g := ⟨_, rfl⟩
  have h5 := atD_new w k B S O L 26
  rw [hg] at h5
  have H5 := Lib.hid h5
  have B0 := Lib.hid (below_new (w := w) (.cells #[.int .i64 k, .int .u32 B, .int .i64 S, .int .i64 O, .int .i64 L] 26))
  have Ht := Lib.hid ht
  have Hb := Lib.hid hb
  have Hx := Lib.hid hx
  have Hy := Lib.hid hy
  obtain ⟨e0, e1, e2, e3, e4⟩ := h5
  clear hb hx hy ht
  go_enter Try.func9, Try.ntmps9
  go_wp2_with fail
  refine (Reach_any k B S O L x y b _ hk hk' hB hB' hS hS' Hb.out Hx.out Hy.out).mono ?_
  rintro e w1 ⟨rfl, hb1⟩
  have B1 := Lib.hid (B0.out.trans (hb1.mono B0.out.size))
  have F1 := Lib.hid ((H5.out.keep hb1).keep (below_new (w := w1) (.cells #[.int .u32 x, .int .u32 y] 41)))
  have T1 := Lib.hid (two_new w1 x y 41)
  obtain ⟨r1, hr1⟩ : ∃ r, w1.heap.size = r := ⟨_, rfl⟩
  rw [hr1] at T1
  clear hb1 B0 H5 hg e0 e1 e2 e3 e4
  obtain ⟨e0, e1, e2, e3, e4⟩ := F1.out
  go_wp2_with fail
  refine (wReach_any k B S O L x y b _ hB hB' hS hS' Hb.out Hx.out Hy.out).mono ?_
  rintro e w2 ⟨rfl, hb2⟩
  have B2 := Lib.hid ((B1.out.trans ((below_new (w := w1) _).mono B1.out.size)).trans (hb2.mono (Nat.le_trans B1.out.size (by simp))))
  have F2 := Lib.hid ((F1.out.keep hb2).keep (below_new (w := w2) (.cells #[.int .u32 x, .int .u32 y] 41)))
  have T2 := Lib.hid ((T1.out.keep hb2).keep (below_new (w := w2) (.cells #[.int .u32 x, .int .u32 y] 41)))
  have U2 := Lib.hid (two_new w2 x y 41)
  clear hb2 F1 T1 B1 hr1 e0 e1 e2 e3 e4
  go_wp2_with fail
  refine wp_region_ext (by kernel_rfl) (by kernel_rfl) ?_
  intro Y hY
  obtain rfl := hY.out
  clear hY
  have B3 := Lib.hid (B2.out.alloc B2.out.size (.cells #[.int .u32 x, .int .u32 y] 41))
  have y0 := ext_cell F2.out.c0
  have y1 := ext_cell F2.out.c1
  have y2 := ext_cell F2.out.c2
  have y3 := ext_cell F2.out.c3
  have y4 := ext_cell F2.out.c4
  have t0 := ext_cell T2.out.1
  have t1 := ext_cell T2.out.2
  have u0 := ext_cell U2.out.1
  have u1 := ext_cell U2.out.2
  have HT := Lib.hid (fun q => (Ht.out.keep B3.out).keep (ext_below _ q))
  have q1 : (b == b) = true := by simp
  have q2 : (x == x) = true := by simp
  have q3 : (y == y) = true := by simp
  repeat (go_big_quiet_step ((first
    | (go_at_call 23; with_reducible exact ext_of (Device_any k B S O L b _ hk hk' hB hB' hS hS' Hb.out))
    | (go_at_call 26; with_reducible exact ext_of (wDevice_any k B S O L b _ hB hB' Hb.out)))))
  refine wpQuiet_nil ?_
  intro w9 hw9
  have h9 := hw9
  obtain ⟨p9, rfl⟩ := hw9
  have H9 := Lib.hid (B3.out.trans ((ext_below _ p9).mono B3.out.size))
  clear h9 y0 y1 y2 y3 y4 t0 t1 u0 u1
  go_wp2_with fail
  go_ret
  exact ⟨rfl, H9.out⟩

set_option maxRecDepth 100000 in
set_option maxHeartbeats 2000000 in
theorem asks_any (a : Option Addr) (n cap : Nat) (l : List Dv) (W2 : Int) (r2 : Bool) (A S D : Int) (p : Int) (w : World) (hn : n ≤ 1000000) (hc : n ≤ cap) (hA : 0 ≤ A) (hA' : A < 4294967296) (hD : 0 ≤ D) (hD' : D < 4294967296) (ht : WT w) (h : RowV w a n l) :
    Calls Try.prog 10 #[.slice a n cap, acc W2 r2 A S D, .int .u32 p] w fun e w' => e = .returned (.bool true) ∧ Below w.heap.size w w' := by
  obtain ⟨g, hg⟩ : ∃ g, w.heap.size = g := ⟨_, rfl⟩
  have h5 := five_new w W2 r2 A S D 28
  rw [hg] at h5
  have H5 := Lib.hid h5
  have B0 := Lib.hid (below_new (w := w) (.cells #[.int .i64 W2, .bool r2, .int .u32 A, .int .i64 S, .int .u32 D] 28))
  have Hr := Lib.hid h
  have Ht := Lib.hid ht
  obtain ⟨i, hi⟩ : ∃ i, (dcd l ⟨W2, r2, A, S, D⟩).getD 0 = i := ⟨_, rfl⟩
  obtain ⟨o, ho⟩ : ∃ o, offV l ⟨W2, r2, A, S, D⟩ (dcd l ⟨W2, r2, A, S, D⟩) = o := ⟨_, rfl⟩
  obtain ⟨b, hb⟩ : ∃ b, (dcd l ⟨W2, r2, A, S, D⟩).isSome = b := ⟨_, rfl⟩
  obtain ⟨j, hj⟩ : ∃ j, (atV l p).getD 0 = j := ⟨_, rfl⟩
  obtain ⟨c, hc2⟩ : ∃ c, (atV l p).isSome = c := ⟨_, rfl⟩
  obtain ⟨rb, hrb⟩ : ∃ rb, rowB l = rb := ⟨_, rfl⟩
  have Hi := Lib.hid hi
  have Ho := Lib.hid ho
  have Hb := Lib.hid hb
  have Hj := Lib.hid hj
  have Hc := Lib.hid hc2
  have Hrb := Lib.hid hrb
  clear h ht hi ho hb hj hc2 hrb
  obtain ⟨q0, q1, q2, q3, q4⟩ := h5
  go_enter Try.func10, Try.ntmps10
  go_wp2_with fail
  refine (Decode_any a n cap l W2 r2 A S D i o b _ hn hc hA hA' hD hD' (Ht.out.keep B0.out) (Hr.out.keep B0.out) Hi.out Ho.out Hb.out).mono ?_
  rintro e w1 ⟨rfl, hb1⟩
  have B1 := Lib.hid (B0.out.trans (hb1.mono B0.out.size))
  have F1 := Lib.hid (H5.out.keep hb1)
  clear hb1 B0 H5 hg q0 q1 q2 q3 q4
  obtain ⟨q0, q1, q2, q3, q4⟩ := F1.out
  go_wp2_with fail
  refine (wDecode_any a n cap l W2 r2 A S D i o b _ hn hA hA' hD hD' (Hr.out.keep B1.out) Hi.out Ho.out Hb.out).mono ?_
  rintro e w2 ⟨rfl, hb2⟩
  have B2 := Lib.hid (B1.out.trans (hb2.mono B1.out.size))
  clear hb2 B1 F1 q0 q1 q2 q3 q4
  go_wp2_with fail
  refine (At_any a n cap l p j c _ hn hc (Ht.out.keep B2.out) (Hr.out.keep B2.out) Hj.out Hc.out).mono ?_
  rintro e w3 ⟨rfl, hb3⟩
  have B3 := Lib.hid (B2.out.trans (hb3.mono B2.out.size))
  clear hb3 B2
  go_wp2_with fail
  refine (wAt_any a n cap l p j c _ hn (Hr.out.keep B3.out) Hj.out Hc.out).mono ?_
  rintro e w4 ⟨rfl, hb4⟩
  have B4 := Lib.hid (B3.out.trans (hb4.mono B3.out.size))
  clear hb4 B3
  go_wp2_with fail
  refine (Right_any a n cap l rb _ hn hc (Ht.out.keep B4.out) (Hr.out.keep B4.out) Hrb.out).mono ?_
  rintro e w5 ⟨rfl, hb5⟩
  have B5 := Lib.hid (B4.out.trans (hb5.mono B4.out.size))
  clear hb5 B4
  go_wp2_with fail
  refine (wRight_any a n cap l rb _ hn (Hr.out.keep B5.out) Hrb.out).mono ?_
  rintro e w6 ⟨rfl, hb6⟩
  have B6 := Lib.hid (B5.out.trans (hb6.mono B5.out.size))
  have e1 : (rb == rb) = true := by simp
  have e2 : ((i : Int) == (i : Int)) = true := by simp
  have e3 : (o == o) = true := by simp
  have e4 : (b == b) = true := by simp
  have e5 : ((j : Int) == (j : Int)) = true := by simp
  have e6 : (c == c) = true := by simp
  clear hb6 B5
  go_wp2_with fail
  go_ret
  exact ⟨rfl, B6.out⟩
end Go.Proofs.Ytfpammfcchboaaa.Win
