/- The document's windows: Reach, Right. -/
import Derived.Test.YtmdepkehpohgeaaGreatVb
namespace Go.Proofs.YtmdepkehpohgeaaGreat.Win
open Go.RowKit Go.Maps Fifo Orow
open Go.Proofs.YtmdepkehpohgeaaGreat.Reach (ret_bool Two two_new alloc_keep bcell rMeet_val rOf_any)
set_option linter.unusedVariables false

theorem wReach_no (k B S O L : Int) (w : World)
    (R : ∀ w, Calls Tryz.prog 72 #[dv k B S O L] w fun e w' => e = .returned (.bool false) ∧ Below w.heap.size w w') :
    Calls Tryz.prog 58 #[dv k B S O L] w fun e w' => e = .returned (.tuple #[.agg #[.int .u32 0, .int .u32 0], .bool false]) ∧ Below w.heap.size w w' := by
  go_enter Tryz.func58, Tryz.ntmps58
  go_wp2_with fail
  refine (R _).mono ?_
  rintro e w1 ⟨rfl, hb⟩
  obtain ⟨hc, hf⟩ := bcell hb
  have Hb := Lib.hid ((((Below.refl w.heap.size w).alloc (Nat.le_refl _) _).alloc (by simp) _).trans (hb.mono (by simp; omega)))
  clear hb
  go_wp2_with fail
  refine bodyPost_ret (v := .tuple #[.agg #[.int .u32 0, .int .u32 0], .bool false]) ?_ rfl ⟨rfl, (Hb.out.setCell (by simp) _).setCell (by simp) _⟩
  have h0 := hc (w.heap.size + 1) 0 (by simp)
  have h1 := hc (w.heap.size + 1) 1 (by simp)
  simp [results, Tryz.results58, go_sem, h0, h1]
theorem wReach_yes (k B S O L x y : Int) (b : Bool) (w : World)
    (R : ∀ w, Calls Tryz.prog 72 #[dv k B S O L] w fun e w' => e = .returned (.bool true) ∧ Below w.heap.size w w')
    (Of : ∀ w, Calls Tryz.prog 73 #[.int .u32 B, .int .i64 S] w fun e w' => e = .returned (.tuple #[.agg #[.int .u32 x, .int .u32 y], .bool b]) ∧ Below w.heap.size w w') :
    Calls Tryz.prog 58 #[dv k B S O L] w fun e w' => e = .returned (.tuple #[.agg #[.int .u32 x, .int .u32 y], .bool b]) ∧ Below w.heap.size w w' := by
  go_enter Tryz.func58, Tryz.ntmps58
  go_wp2_with fail
  refine (R _).mono ?_
  rintro e w1 ⟨rfl, hb⟩
  obtain ⟨hc, hf⟩ := bcell hb
  obtain ⟨k0, k1, k2, k3, k4⟩ := ((atD_new w k B S O L _).keep ((Below.refl _ _).alloc (Nat.le_refl _) _)).keep hb
  have h0 := hc (w.heap.size + 1) 0 (by simp)
  have h1 := hc (w.heap.size + 1) 1 (by simp)
  have f0 := hf (w.heap.size + 1) 0 (by simp)
  have f1 := hf (w.heap.size + 1) 1 (by simp)
  simp [go_sem] at h0 h1 f0 f1
  have hsz := hb.size
  have Hb := Lib.hid ((((Below.refl w.heap.size w).alloc (Nat.le_refl _) _).alloc (by simp) _).trans (hb.mono (by simp; omega)))
  clear hb hc hf
  have hlt : w.heap.size + 1 < w1.heap.size := by simp at hsz; omega
  clear hsz
  simp only [Nat.zero_add] at k1 k2
  go_wp2_with fail
  refine (Of _).mono ?_
  rintro e w2 ⟨rfl, hb⟩
  obtain ⟨hc, hf⟩ := bcell hb
  have h0 := (hc (w.heap.size + 1) 0 hlt).trans h0
  have h1 := (hc (w.heap.size + 1) 1 hlt).trans h1
  have f0 := (hf (w.heap.size + 1) 0 hlt).trans f0
  have f1 := (hf (w.heap.size + 1) 1 hlt).trans f1
  have Hb2 := Lib.hid (Hb.out.trans (hb.mono Hb.out.size))
  clear hb hc hf k0 k1 k2 k3 k4
  go_wp2_with fail
  refine bodyPost_ret (v := .tuple #[.agg #[.int .u32 x, .int .u32 y], .bool b]) ?_ rfl ⟨rfl, (Hb2.out.setCell (by simp) _).setCell (by simp) _⟩
  simp [results, Tryz.results58, go_sem, h0, h1]
theorem of_dev {k B S O L : Int} (h : devV k B S O L = true) : Reach.ofF B S = winF true B ∧ Reach.ofT B S = winT true B S ∧ Reach.ofB B S = true := by
  have hp := dev_parts h
  have e : 1 ≤ S ∧ B + S ≤ 4294967296 := by omega
  exact ⟨if_pos e, if_pos e, decide_eq_true e⟩
theorem wReach_any (k B S O L x y : Int) (b : Bool) (w : World) (hB : 0 ≤ B) (hB' : B < 4294967296) (hS : -9223372036854775808 ≤ S) (hS' : S ≤ 9223372036854775807) (hb : devV k B S O L = b) (hx : winF b B = x) (hy : winT b B S = y) :
    Calls Tryz.prog 58 #[dv k B S O L] w fun e w' => e = .returned (.tuple #[.agg #[.int .u32 x, .int .u32 y], .bool b]) ∧ Below w.heap.size w w' := by
  subst hx; subst hy
  cases b
  · exact wReach_no k B S O L w (fun w => wDevice_any k B S O L _ w hB hB' hb)
  · obtain ⟨e1, e2, e3⟩ := of_dev hb
    refine wReach_yes k B S O L _ _ true w (fun w => wDevice_any k B S O L _ w hB hB' hb) (fun w => ?_)
    have := rOf_any B S w hB hB' hS hS'
    rw [e1, e2, e3] at this
    exact this
/-- The same, of a device as a whole. -/
theorem wReach_dev (d : Dv) (w : World) (h : okD d) : Calls Tryz.prog 58 #[dv d.k d.B d.S d.O d.L] w fun e w' => e = .returned (.tuple #[.agg #[.int .u32 d.F, .int .u32 d.T], .bool d.right]) ∧ Below w.heap.size w w' :=
  wReach_any d.k d.B d.S d.O d.L _ _ _ w h.2.1.1 h.2.1.2 h.2.2.1.1 h.2.2.1.2 rfl rfl rfl

set_option maxRecDepth 100000 in
set_option maxHeartbeats 2000000 in
theorem wRight_core (a : Option Addr) (n cap : Nat) (l : List Dv) (w : World) (hn : n ≤ 1000000) (h : RowV w a n l) :
    Calls Tryz.prog 28 #[.slice a n cap] w fun e w' => e = .returned (.bool (rowB l)) ∧ Below w.heap.size w w' := by
  have Hr := Lib.hid h
  clear h
  by_cases h16 : 16 < n
  · have d1 : decide ((16 : Int) < (n : Int)) = true := decide_eq_true (by omega)
    go_enter Tryz.func28, Tryz.ntmps28
    go_wp2_with fail
    go_ret
    exact ⟨ret_bool (row_no_long (by rw [Hr.out.1]; exact h16)).symm, Below.refl _ _⟩
  · have d1 : decide ((16 : Int) < (n : Int)) = false := decide_eq_false (by omega)
    go_enter Tryz.func28, Tryz.ntmps28
    go_wp2_with fail
    go_loopw [3] (fun i wr => ∃ k : Nat, k ≤ n ∧ i = .int .i64 k ∧ Hid (∀ i, i < k → l[i]!.right = true ∧ ∀ j, j < i → meet l[i]! l[j]! = false) ∧ Below w.heap.size w wr) (fun i _ => n - (intOf i).toNat)
    case atStart => exact ⟨0, Nat.zero_le _, rfl, Lib.hid (fun j hj => by omega), Below.refl _ _⟩
    case round =>
    obtain ⟨k, hk, rfl, hno, hb⟩ := hrel
    obtain ⟨v1, rfl⟩ : ∃ W : World, W = wr := ⟨_, rfl⟩
    have Hb := Lib.hid hb
    have hsz := hb.size
    clear hb
    by_cases hlt : k < n
    · obtain ⟨b, off, rfl, ce⟩ := Hr.out.2.2 k hlt
      have ce := ce.keep Hb.out
      have hok := Hr.out.2.1 k hlt
      obtain ⟨x, hx⟩ : ∃ x, l[k]! = x := ⟨_, rfl⟩
      rw [hx] at ce hok
      have Hx := Lib.hid hx
      have RX := Lib.hid (fun w => wReach_dev x w hok)
      obtain ⟨f, hf⟩ : ∃ f, x.F = f := ⟨_, rfl⟩
      obtain ⟨t, ht⟩ : ∃ t, x.T = t := ⟨_, rfl⟩
      obtain ⟨r, hr⟩ : ∃ r, x.right = r := ⟨_, rfl⟩
      have RX2 := RX.out
      rw [hf, ht, hr] at RX2
      have RX := Lib.hid RX2
      have Hf := Lib.hid hf
      have Ht := Lib.hid ht
      have Hrr := Lib.hid hr
      obtain ⟨xk, xB, xS, xO, xL⟩ := x
      obtain ⟨e0, e1, e2, e3, e4⟩ := ce
      have i1 : (0 : Int) ≤ (k : Int) := by omega
      have i2 : (k : Int) < (n : Int) := by omega
      clear hx hok RX2 hf ht hr
      go_wp2_with fail
      refine (RX.out _).mono ?_
      rintro e w2 ⟨rfl, hb2⟩
      have Hb2 := Lib.hid (Hb.out.trans (hb2.mono hsz))
      have hs2 := Hb2.out.size
      clear hb2 e0 e1 e2 e3 e4 RX
      cases r
      · go_wp2_with fail
        go_ret
        exact ⟨ret_bool (row_no_right (i := k) (by rw [Hr.out.1]; exact hlt) (by rw [Hx.out]; exact Hrr.out)).symm, Hb2.out.alloc Hb2.out.size _⟩
      · go_wp2_with fail
        refine code_letter ?_
        intro X hX
        have P := Lib.hid (show Two X w2.heap.size f t by rw [hX.out]; exact two_new _ _ _ _)
        have BX := Lib.hid (show Below w.heap.size w X by rw [hX.out]; exact Hb2.out.alloc Hb2.out.size _)
        obtain ⟨R, hR⟩ : ∃ R, w2.heap.size = R := ⟨_, rfl⟩
        rw [hR] at P
        rw [hR]
        clear hR hX Hb2 hs2
        go_loopw [6] (fun i wr => ∃ j : Nat, j ≤ k ∧ i = .int .i64 j ∧ Hid (∀ i, i < j → meet l[k]! l[i]! = false) ∧ Two wr R f t ∧ Below w.heap.size w wr) (fun i _ => k - (intOf i).toNat)
        case atStart => exact ⟨0, Nat.zero_le _, rfl, Lib.hid (fun j hj => by omega), P.out, BX.out⟩
        case round =>
        clear P BX
        obtain ⟨j, hj, rfl, hnj, hp, hb⟩ := hrel
        have P := Lib.hid hp
        have Hb3 := Lib.hid hb
        have hs3 := hb.size
        clear hp hb
        by_cases hlj : j < k
        · have j1 : (0 : Int) ≤ (j : Int) := by omega
          have j2 : (j : Int) < (n : Int) := by omega
          obtain ⟨b2, off2, hbo2, cf⟩ := Hr.out.2.2 j (by omega)
          obtain ⟨rfl, rfl⟩ : b = b2 ∧ off = off2 := by simpa using hbo2
          clear hbo2
          have cf := cf.keep Hb3.out
          have hok := Hr.out.2.1 j (by omega)
          obtain ⟨y, hy⟩ : ∃ y, l[j]! = y := ⟨_, rfl⟩
          rw [hy] at cf hok
          have Hy := Lib.hid hy
          have RY2 := fun w => wReach_dev y w hok
          obtain ⟨f2, hf2⟩ : ∃ f, y.F = f := ⟨_, rfl⟩
          obtain ⟨t2, ht2⟩ : ∃ t, y.T = t := ⟨_, rfl⟩
          obtain ⟨r2, hr2⟩ : ∃ r, y.right = r := ⟨_, rfl⟩
          rw [hf2, ht2, hr2] at RY2
          have RY := Lib.hid RY2
          have Hf2 := Lib.hid hf2
          have Ht2 := Lib.hid ht2
          obtain ⟨yk, yB, yS, yO, yL⟩ := y
          obtain ⟨e0, e1, e2, e3, e4⟩ := cf
          clear hy hok RY2 hf2 ht2 hr2
          go_wp2_with fail
          refine (RY.out _).mono ?_
          rintro e w4 ⟨rfl, hb4⟩
          have Hb4 := Lib.hid (Hb3.out.trans (hb4.mono hs3))
          have P4 := Lib.hid (P.out.keep hb4)
          have p0 := alloc_keep P4.out.1 (.cells #[.int .u32 f2, .int .u32 t2] 99)
          have p1 := alloc_keep P4.out.2 (.cells #[.int .u32 f2, .int .u32 t2] 99)
          obtain ⟨mb, hmb⟩ : ∃ mb, Reach.meetB f t f2 t2 = mb := ⟨_, rfl⟩
          have Hmb := Lib.hid hmb
          clear hb4 e0 e1 e2 e3 e4 RY hmb
          go_wp2_with fail
          refine (rMeet_val f t f2 t2 _ _ mb _ rfl rfl Hmb.out).mono ?_
          rintro e w5 ⟨rfl, hb5⟩
          have ha4 := (Below.refl w4.heap.size w4).alloc (Nat.le_refl _) (.cells #[.int .u32 f2, .int .u32 t2] 99)
          have hb45 := ha4.trans (hb5.mono ha4.size)
          have Hb5 := Lib.hid (Hb4.out.trans (hb45.mono Hb4.out.size))
          have P5 := Lib.hid (P4.out.keep hb45)
          clear hb5 ha4 hb45 p0 p1
          cases mb
          · go_wp2_with fail
            refine ⟨⟨j + 1, by omega, by go_num, Lib.hid (fun i hi => ?_), P5.out.alloc _, Hb5.out.alloc Hb5.out.size _⟩, by simp [intOf]; omega⟩
            by_cases e : i = j
            · subst e; rw [Hx.out, Hy.out]; unfold meet; rw [Hf.out, Ht.out, Hf2.out, Ht2.out]; exact Hmb.out
            · exact hnj.out i (by omega)
          · go_wp2_with fail
            go_ret
            exact ⟨ret_bool (row_no_meet (i := k) (by rw [Hr.out.1]; exact hlt) hlj (by rw [Hx.out, Hy.out]; unfold meet; rw [Hf.out, Ht.out, Hf2.out, Ht2.out]; exact Hmb.out)).symm, Hb5.out.alloc Hb5.out.size _⟩
        · obtain rfl : j = k := by omega
          go_wp2_with fail
          refine ⟨⟨j + 1, by omega, by go_num, Lib.hid (fun i hi => ?_), Hb3.out⟩, by simp [intOf]; omega⟩
          by_cases e : i = j
          · subst e; exact ⟨by rw [Hx.out]; exact Hrr.out, hnj.out⟩
          · exact hno.out i (by omega)
    · obtain rfl : k = n := by omega
      go_wp2_with fail
      go_ret
      exact ⟨ret_bool (row_yes (by rw [Hr.out.1]; omega) (fun i hi => hno.out i (by rw [Hr.out.1] at hi; exact hi))).symm, Hb.out⟩
theorem wRight_any (a : Option Addr) (n cap : Nat) (l : List Dv) (b : Bool) (w : World) (hn : n ≤ 1000000) (h : RowV w a n l) (hb : rowB l = b) :
    Calls Tryz.prog 28 #[.slice a n cap] w fun e w' => e = .returned (.bool b) ∧ Below w.heap.size w w' := by
  subst hb; exact wRight_core a n cap l w hn h
end Go.Proofs.YtmdepkehpohgeaaGreat.Win
