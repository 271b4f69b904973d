/- ScrubOne. -/
import Derived.Test.YtmdepkehpohgeaaS6s
import Derived.Test.YtmdepkehpohgeaaS6f
namespace Go.Proofs.Ytmdepkehpohgeaa.Scr
open Go.RowKit Go.Maps Go.ChangeShapes Go.WideShapes Go.ChangeAt Fifo Orow Word
set_option linter.unusedVariables false

theorem ba_lt {w : World} {B n sz c : Nat} {e : TypeId} {a : Option Addr} {L : List Value} (h : w.ownsRow B e sz (.slice a n c) n L) {j : Nat} (hj : BA a j) : B ≤ j ∧ j < w.heap.size := own_lt h j hj
set_option maxRecDepth 100000 in
set_option maxHeartbeats 8000000 in
theorem one_walk (Bk : Nat) (al : Option Addr) (n cap : Nat) (l : List Win.Dv) (a1 : Option Addr) (len1 cap1 : Nat) (l1 : List Dd) (x y : Int) (w : World) (hL : Laid w Bk) (hBk : Bk ≤ w.heap.size) (hl : Win.RowV w al n l) (hc : n ≤ cap) (hn : n < 140737488355328) (hr1 : RowDd w a1 len1 l1) (hn1 : len1 < 140737488355328) (hx : I64 x) (hy : I64 y) :
    Calls Try.prog 4 #[.slice al n cap, .slice a1 len1 cap1, .int .i64 x, .int .i64 y] w fun z w' => z = .returned (.bool true) ∧ Below w.heap.size w w' := by
  obtain ⟨B, hBe⟩ : ∃ B, w.heap.size = B := ⟨_, rfl⟩
  rw [hBe] at hBk ⊢
  have HB := Lib.hid hBe
  have HBk := Lib.hid hBk
  have HLx := Lib.hid (fun W (h : Below B w W) => hL.keep (h.mono hBk))
  have HVx := Lib.hid (fun W (h : Below B w W) => hl.keep (by rw [hBe]; exact h))
  have HV := Lib.hid hl
  have HR1 := Lib.hid hr1
  have HXY := Lib.hid (And.intro hx hy)
  have HN := Lib.hid (show n ≤ cap ∧ n < 140737488355328 ∧ len1 < 140737488355328 from ⟨hc, hn, hn1⟩)
  have A0 := Lib.hid (awake_any Bk B w hL hBk (by omega))
  clear hBe hBk hL hl hr1 hc hn hn1 hx hy
  go_enter Try.func4, Try.ntmps4
  go_wp2_with fail
  refine A0.out.mono ?_
  rintro e w1 ⟨rfl, hb⟩
  have B1 := Lib.hid hb
  have S1 := Lib.hid (show B ≤ w1.heap.size by have := hb.size; have := HB.out; omega)
  clear hb A0
  cases hv : Win.rowB l with
  | false =>
    have N1 := Lib.hid (New_no al n cap l w1 HN.out.2.1 HN.out.1 (HVx.out w1 B1.out) hv)
    go_wp2_with fail
    refine N1.out.mono ?_
    rintro e w2 ⟨rfl, hb⟩
    have B2 := Lib.hid (B1.out.trans (hb.mono S1.out))
    clear hb N1
    go_wp2_with fail
    go_ret
    exact ⟨rfl, B2.out⟩
  | true =>
    have hn16 := (Win.rowB_iff.1 hv).1
    rw [HV.out.1] at hn16
    have H16 := Lib.hid hn16
    have N1 := Lib.hid (New_yes Bk al n cap l w1 HN.out.2.1 HN.out.1 (HVx.out w1 B1.out) (HLx.out w1 B1.out) (Nat.le_trans HBk.out S1.out) hv)
    have Hs0 := Lib.hid (show (newS l).H.length = n by simp [newS, HV.out.1])
    clear hn16 hv
    go_wp2_with fail
    refine N1.out.mono ?_
    rintro e w2 ⟨⟨b, O, rfl, hD, hO⟩, hb⟩
    have B2 := Lib.hid (B1.out.trans (hb.mono S1.out))
    have D2 := Lib.hid hD
    have O2 := Lib.hid (show ∀ j, O j → w.heap.size ≤ j from fun j hj => by have := hO j hj; have := S1.out; have := HB.out; omega)
    have S2 := Lib.hid (show B ≤ w2.heap.size from Nat.le_trans S1.out hb.size)
    clear hb hD hO N1
    by_cases h200 : len1 ≤ 200
    · have d0 : decide ((200 : Int) < (len1 : Int)) = false := decide_eq_false (by omega)
      have d0' : decide (200 < len1) = false := decide_eq_false (by omega)
      have HRun := Lib.hid (run_any Bk b (newS l) O a1 len1 cap1 l1 true w w2 HR1.out (by omega) (by rw [HB.out]; exact B2.out) O2.out D2.out)
      clear h200
      go_wp2_with fail
      refine HRun.out.mono ?_
      rintro e w3 ⟨rfl, s1, hrs, P3, k1, k2, k3⟩
      have B3 := Lib.hid (only_below B2.out k2 S2.out (fun j hj => by have := O2.out j hj; have := HB.out; omega))
      have hs1 : s1.H.length = n := by rw [hrs.len]; exact Hs0.out
      have HS := Lib.hid hs1
      have K3 := Lib.hid k1
      have OB3 := Lib.hid (show ∀ j, P3 j → B ≤ j from fun j hj => (k3 j hj).elim (fun e => by have := O2.out j e; have := HB.out; omega) (fun e => Nat.le_trans S2.out e))
      have S3 := Lib.hid (Nat.le_trans S2.out k2.size)
      have Hseen := Lib.hid (seen_all k1.ok)
      have Hfew := Lib.hid (show ∀ v : Nat, (ofV s1 (v : Nat)).length ≤ 16 from fun v => of_few k1.ok _)
      have Hhol := Lib.hid (show ∀ j, j < n → OkH s1.H[j]! from fun j hj => k1.ok.hol j (by rw [hs1]; exact hj))
      clear k1 k2 k3 hrs hs1 HRun Hs0
      go_wp2_with fail
      go_loopw [11, 12] (fun sv vv wr => ∃ v q : Nat, v ≤ 8 ∧ vv = .int .i64 (v : Nat) ∧ sv = .int .i64 (q : Nat) ∧ q = sumL s1.H v ∧ Below w3.heap.size w3 wr) (fun _ vv _ => 8 - (intOf vv).toNat)
      case atStart => exact ⟨0, 0, by omega, rfl, rfl, rfl, Below.refl _ _⟩
      case round =>
      obtain ⟨v, q, hv8, rfl, rfl, hq, hb⟩ := hrel
      have Hb := Lib.hid hb
      have KK := Lib.hid (K3.out.keep hb)
      have Hq := Lib.hid hq
      have Hq16 := Lib.hid (show q ≤ 16 by have := sum_le s1.H v; have := HS.out; have := H16.out; omega)
      clear hb hq
      by_cases hlt : v < 8
      · have d1 : decide ((v : Int) < 8) = true := decide_eq_true (by omega)
        have d1' : decide (v < 8) = true := decide_eq_true hlt
        have wv : IntKind.i64.wrap ((v : Int) + 1) = (v : Int) + 1 := IntWalk.i64_in _ (by omega)
        have Hv := Lib.hid hlt
        have HOf := Lib.hid (Of_any Bk b s1 P3 (v : Nat) wr ⟨by omega, by omega⟩ KK.out)
        have Hstep := Lib.hid (sum_step s1 v)
        have Hown := Lib.hid (fun i (hi : i < (ofV s1 (v : Nat)).length) => of_owner (s := s1) v hi)
        have Hup := Lib.hid (fun i (hi : i + 1 < (ofV s1 (v : Nat)).length) => of_up (s := s1) (v : Nat) hi)
        have Hln := Lib.hid (Hfew.out v)
        have HLb := Lib.hid (fun i (hi : i < (ofV s1 (v : Nat)).length) => show (ofV s1 (v : Nat))[i]! < 16 from by
          have hm : (ofV s1 (v : Nat))[i]! ∈ ofV s1 (v : Nat) := by rw [getElem!_pos _ i hi]; exact List.getElem_mem hi
          have := nums_b _ 0 _ _ hm
          have := HS.out; have := H16.out
          omega)
        obtain ⟨L, hL⟩ : ∃ L, ofV s1 (v : Nat) = L := ⟨_, rfl⟩
        rw [hL] at HOf Hstep Hown Hup Hln HLb
        obtain ⟨ln, hln⟩ : ∃ m, L.length = m := ⟨_, rfl⟩
        rw [hln] at HOf Hstep Hown Hup Hln HLb
        have Hdl := Lib.hid hln
        clear hL hln hlt hv8
        go_wp2_with fail
        refine HOf.out.mono ?_
        rintro e w4 ⟨⟨a, c, rfl, hR⟩, hb⟩
        have R4 := Lib.hid hR
        have B4 := Lib.hid (Hb.out.trans (hb.mono Hb.out.size))
        clear hR hb HOf
        go_wp2_with fail
        go_loopw [11, 14] (fun sv iv wr => ∃ i q : Nat, i ≤ ln ∧ iv = .int .i64 (i : Nat) ∧ sv = .int .i64 (q : Nat) ∧ q = sumL s1.H v + i ∧ Below w4.heap.size w4 wr) (fun _ iv _ => ln - (intOf iv).toNat)
        case atStart => exact ⟨0, q, Nat.zero_le _, rfl, rfl, Hq.out, Below.refl _ _⟩
        case round =>
        clear Hq Hq16
        obtain ⟨i, q, hi, rfl, rfl, hq, hb⟩ := hrel
        have Hq := Lib.hid hq
        have Hq16 := Lib.hid (show q ≤ 1000 by have := sum_le s1.H v; have := HS.out; have := H16.out; have := Hln.out; omega)
        have Hb4 := Lib.hid hb
        clear hq hb
        by_cases hil : i < ln
        · have e1 : decide ((i : Int) < (ln : Int)) = true := decide_eq_true (by omega)
          have e1' : decide (i < ln) = true := decide_eq_true hil
          have wi : IntKind.i64.wrap ((i : Int) + 1) = (i : Int) + 1 := IntWalk.i64_in _ (by have := Hln.out; omega)
          have wq : IntKind.i64.wrap ((q : Int) + 1) = (q : Int) + 1 := IntWalk.i64_in _ (by have := Hq16.out; omega)
          have i1 : (0 : Int) ≤ (i : Int) := by omega
          have i2 : (i : Int) < (ln : Int) := by omega
          obtain ⟨g, rfl⟩ := own_some R4.out (.inl (by omega))
          have cel := Lib.hid (fun k (hk : k < ln) (W : World) (hW : Below w4.heap.size w4 W) => (show W.cell? ⟨g, k, none⟩ = some (.int .i64 (L[k]! : Nat)) by
            have := (own_keep R4.out hW).cellAt k (by omega)
            rw [this]
            have hkL : k < L.length := by rw [Hdl.out]; exact hk
            simp [iv, hkL]))
          have ci := cel.out i hil _ Hb4.out
          have hz16 := HLb.out i hil
          have HOw := Lib.hid (Owner_any Bk b s1 P3 ((L[i]! : Nat) : Int) wr ⟨by omega, by omega⟩ ((K3.out.keep B4.out).keep Hb4.out))
          rw [Hown.out i hil] at HOw
          have Hil := Lib.hid hil
          have vv : ((v : Int) != (v : Int)) = false := by simp
          have vv2 : ((v : Int) == (v : Int)) = true := by simp
          by_cases hi0 : i = 0
          · subst hi0
            obtain ⟨z, hz⟩ : ∃ z, L[0]! = z := ⟨_, rfl⟩
            rw [hz] at ci HOw
            clear hi hil hz hz16
            go_wp2_with fail
            refine HOw.out.mono ?_
            rintro e w5 ⟨rfl, hb⟩
            have B5 := Lib.hid (Hb4.out.trans (hb.mono Hb4.out.size))
            clear hb HOw ci
            go_wp2_with fail
            go_quiet (fail)
            go_wp2_with fail
            exact ⟨⟨1, q + 1, Hil.out, by go_num, by go_num, by have := Hq.out; omega, B5.out.trans ((Fifo.below_drewN _ _).mono B5.out.size)⟩, by have := Hil.out; simp [intOf]; omega⟩
          · obtain ⟨j, rfl⟩ : ∃ j, i = j + 1 := ⟨i - 1, by omega⟩
            have g1 : decide ((0 : Int) < ((j + 1 : Nat) : Int)) = true := decide_eq_true (by omega)
            have g1' : decide (0 < j + 1) = true := decide_eq_true (by omega)
            have wj : IntKind.i64.wrap (((j + 1 : Nat) : Int) - 1) = (j : Int) := by rw [IntWalk.i64_in _ (by have := Hln.out; omega)]; omega
            have hup := Hup.out j hil
            have cj := Lib.hid (fun W (hW : Below w4.heap.size w4 W) => cel.out j (by omega) W hW)
            have ci' := Lib.hid (fun W (hW : Below w4.heap.size w4 W) => cel.out (j + 1) hil W hW)
            obtain ⟨z, hz⟩ : ∃ z, L[j + 1]! = z := ⟨_, rfl⟩
            obtain ⟨z0, hz0⟩ : ∃ z, L[j]! = z := ⟨_, rfl⟩
            rw [hz] at ci HOw hup hz16 ci'
            rw [hz0] at cj hup
            have j1 : (0 : Int) ≤ (j : Int) := by omega
            have j2 : (j : Int) < (ln : Int) := by omega
            have g2 : decide ((z : Int) ≤ (z0 : Int)) = false := decide_eq_false (by omega)
            have g2' : decide (z ≤ z0) = false := decide_eq_false (by omega)
            obtain ⟨i, hi1⟩ : ∃ i, j + 1 = i := ⟨_, rfl⟩
            rw [hi1] at e1 e1' wi i1 i2 ci g1 g1' wj ci' Hil ⊢
            have Hq := Lib.hid (show q = sumL s1.H v + i by rw [← hi1]; exact Hq.out)
            clear hi0 hi hil hz hz0 hup hz16 cel hi1
            go_wp2_with fail
            refine HOw.out.mono ?_
            rintro e w5 ⟨rfl, hb⟩
            have B5 := Lib.hid (Hb4.out.trans (hb.mono Hb4.out.size))
            have c5 := cj.out _ B5.out
            have c6 := ci'.out _ B5.out
            clear hb HOw ci
            go_wp2_with fail
            go_quiet (fail)
            go_wp2_with fail
            exact ⟨⟨i + 1, q + 1, Hil.out, by go_num, by go_num, by have := Hq.out; omega, B5.out.trans ((Fifo.below_drewN _ _).mono B5.out.size)⟩, by have := Hil.out; simp [intOf]; omega⟩
        · have e1 : decide ((i : Int) < (ln : Int)) = false := decide_eq_false (by omega)
          have e1' : decide (i < ln) = false := decide_eq_false hil
          have Hend := Lib.hid (show q = sumL s1.H (v + 1) by have := Hq.out; have := Hstep.out; omega)
          have BE := Lib.hid (B4.out.trans (Hb4.out.mono B4.out.size))
          clear hi hil Hq
          go_wp2_with fail
          exact ⟨⟨v + 1, q, Hv.out, by go_num, rfl, Hend.out, BE.out⟩, by have := Hv.out; simp [intOf]; omega⟩
      · have d1 : decide ((v : Int) < 8) = false := decide_eq_false (by omega)
        have d1' : decide (v < 8) = false := decide_eq_false hlt
        obtain rfl : v = 8 := by omega
        have AL := Lib.hid (fun W K => (show Calls Try.prog 17 #[at0 b] W fun e w' => (∃ a c, e = .returned (.slice a n c) ∧ w'.ownsRow W.heap.size 41 3 (.slice a n c) n (flHd s1.H)) ∧ Below W.heap.size W w' by have := All_any Bk b s1 P3 W K; rw [HS.out] at this; exact this))
        clear hv8 hlt
        go_wp2_with fail
        refine (AL.out wr KK.out).mono ?_
        rintro e w6 ⟨⟨a6, c6, rfl, hR⟩, hb⟩
        have R6 := Lib.hid hR
        have lo6 := Lib.hid (show ∀ j, BA a6 j → wr.heap.size ≤ j ∧ j < w6.heap.size from fun j hj => ba_lt hR hj)
        have B6 := Lib.hid (Hb.out.trans (hb.mono Hb.out.size))
        have K6 := Lib.hid (KK.out.keep hb)
        have LT := Lib.hid (show ∀ j, _ → j < wr.heap.size from fun j hj => (KK.out.lt j hj).2)
        clear hR hb AL
        go_wp2_with fail
        go_loopw [11, 18] (fun sv iv wr => ∃ i q : Nat, i ≤ n ∧ iv = .int .i64 (i : Nat) ∧ sv = .int .i64 (q : Nat) ∧ q = sumL s1.H 8 + (s1.H.take i).countP negH ∧ Below w6.heap.size w6 wr) (fun _ iv _ => n - (intOf iv).toNat)
        case atStart => exact ⟨0, q, Nat.zero_le _, rfl, rfl, by have := Hq.out; simpa using this, Below.refl _ _⟩
        case round =>
        clear Hq Hq16
        obtain ⟨i, q, hi, rfl, rfl, hq, hb⟩ := hrel
        have Hq := Lib.hid hq
        have Hq16 := Lib.hid (show q ≤ 1000 by have := sum_le s1.H 8; have := neg_le s1.H i; have := HS.out; have := H16.out; omega)
        have Hb6 := Lib.hid hb
        clear hq hb
        by_cases hlt : i < n
        · have d2 : decide ((i : Int) < (n : Int)) = true := decide_eq_true (by omega)
          have d2' : decide (i < n) = true := decide_eq_true hlt
          have wi : IntKind.i64.wrap ((i : Int) + 1) = (i : Int) + 1 := IntWalk.i64_in _ (by have := H16.out; omega)
          have wq : IntKind.i64.wrap ((q : Int) + 1) = (q : Int) + 1 := IntWalk.i64_in _ (by have := Hq16.out; omega)
          have i1 : (0 : Int) ≤ (i : Int) := by omega
          have i2 : (i : Int) < (n : Int) := by omega
          obtain ⟨g, rfl⟩ := own_some R6.out (.inl (by omega))
          obtain ⟨c0, c1, c2⟩ := row_at (own_keep R6.out Hb6.out) (k := i) (by rw [HS.out]; exact hlt)
          have hok := Hhol.out i hlt
          have hst := neg_step s1.H i (by rw [HS.out]; exact hlt)
          obtain ⟨hh, hhe⟩ : ∃ h, s1.H[i]! = h := ⟨_, rfl⟩
          rw [hhe] at c0 c1 c2 hok hst
          obtain ⟨ho, hl, hn⟩ := hh
          simp only at c0 c1 c2 hst
          obtain ⟨k1, k2, k3, k4, k5⟩ := hok
          simp only at k1 k2 k3 k4 k5
          have Hst := Lib.hid hst
          have Hlt := Lib.hid hlt
          have Hk := Lib.hid (show (0 ≤ hl ∧ hl ≤ 16) ∧ (-1 ≤ ho ∧ ho < 8) ∧ (-1 ≤ hn ∧ hn < 8) ∧ (0 ≤ ho → hl = 0) ∧ (hl = 0 → hn = -1) from ⟨k1, k2, k3, k4, k5⟩)
          clear hst hhe hlt hi k1 k2 k3 k4 k5
          obtain ⟨gh, hgh⟩ : ∃ g, wr.heap.size = g := ⟨_, rfl⟩
          go_wp2_with (with_reducible refine at_store _ _ _ rfl ?_)
          refine Lib.hid ?_
          have hnew := Blk.new wr 41 [.int .i64 0, .int .i64 0, .int .i64 0]
          rw [hgh] at hnew
          refine store_all rfl _ _ _ rfl gh [.int .i64 ho, .int .i64 hl, .int .i64 hn] rfl rfl _ _ hnew (by kernel_rfl) rfl (by simp [Value.oneCell']) ?_
          intro y1 hX hoX
          have hal := (Below.refl wr.heap.size wr).alloc (Nat.le_refl _) (.cells #[.int .i64 0, .int .i64 0, .int .i64 0] 41)
          have hbX : Below wr.heap.size wr y1 := hal.trans (hoX.below hal.size (fun j e => by rw [e, ← hgh]; exact Nat.le_refl _))
          have BY := Lib.hid (Hb6.out.trans (hbX.mono Hb6.out.size))
          have h0 := hX.at 0 rfl
          have h1 := hX.at 1 rfl
          have h2 := hX.at 2 rfl
          clear hX hoX hal hbX hnew hgh c0 c1 c2
          have l1 : decide (hl < 0) = false := decide_eq_false (by have := Hk.out; omega)
          have l2 : decide (16 < hl) = false := decide_eq_false (by have := Hk.out; omega)
          by_cases hneg : ho < 0
          · have o1 : decide (ho < 0) = true := decide_eq_true hneg
            have o2 : decide (0 ≤ ho) = false := decide_eq_false (by omega)
            have HE := Lib.hid (show q + 1 = sumL s1.H 8 + (s1.H.take (i + 1)).countP negH by rw [Hst.out, if_pos hneg]; have := Hq.out; omega)
            by_cases hl0 : hl = 0
            · have m1 : (hl == 0) = true := beq_iff_eq.2 hl0
              have m2 : (hl != 0) = false := by simp [hl0]
              have m3 : (hn != -1) = false := by have := Hk.out.2.2.2.2 hl0; simp [this]
              have m4 : (hn == -1) = true := by have := Hk.out.2.2.2.2 hl0; simp [this]
              clear hneg hl0
              go_wp2_with fail
              exact ⟨⟨i + 1, q + 1, Hlt.out, by go_num, by go_num, HE.out, BY.out⟩, by have := Hlt.out; simp [intOf]; omega⟩
            · have m1 : (hl == 0) = false := beq_eq_false_iff_ne.2 hl0
              have m2 : (hl != 0) = true := by simp [hl0]
              clear hneg hl0
              go_wp2_with fail
              exact ⟨⟨i + 1, q + 1, Hlt.out, by go_num, by go_num, HE.out, BY.out⟩, by have := Hlt.out; simp [intOf]; omega⟩
          · have o1 : decide (ho < 0) = false := decide_eq_false hneg
            have o2 : decide (0 ≤ ho) = true := decide_eq_true (by omega)
            have HE := Lib.hid (show q = sumL s1.H 8 + (s1.H.take (i + 1)).countP negH by rw [Hst.out, if_neg hneg]; have := Hq.out; omega)
            have hl0 : hl = 0 := Hk.out.2.2.2.1 (by omega)
            have m1 : (hl == 0) = true := beq_iff_eq.2 hl0
            have m2 : (hl != 0) = false := by simp [hl0]
            have m3 : (hn != -1) = false := by have := Hk.out.2.2.2.2 hl0; simp [this]
            have m4 : (hn == -1) = true := by have := Hk.out.2.2.2.2 hl0; simp [this]
            clear hneg hl0
            go_wp2_with fail
            exact ⟨⟨i + 1, q, Hlt.out, by go_num, rfl, HE.out, BY.out⟩, by have := Hlt.out; simp [intOf]; omega⟩
        · have d2 : decide ((i : Int) < (n : Int)) = false := decide_eq_false (by omega)
          have d2' : decide (i < n) = false := decide_eq_false hlt
          obtain rfl : n = q := by
            have h1 := Hq.out
            rw [List.take_of_length_le (by rw [HS.out]; omega)] at h1
            rw [h1, Hseen.out, HS.out]
          have B7 := Lib.hid (B6.out.trans (Hb6.out.mono B6.out.size))
          have K7 := Lib.hid (K6.out.keep Hb6.out)
          have R7 := Lib.hid (own_keep R6.out Hb6.out)
          have LN := Lib.hid (Len_any Bk b s1 P3 _ K7.out)
          have nn : ((n : Int) != (n : Int)) = false := by simp
          have LN2 := Lib.hid (show Calls Try.prog 18 #[at0 b] wr fun e w' => e = .returned (.int .i64 (n : Nat)) ∧ Below wr.heap.size wr w' by have := LN.out; rw [HS.out] at this; exact this)
          have S7 := Lib.hid (Nat.le_trans S3.out (Nat.le_trans B6.out.size Hb6.out.size))
          clear hlt hi Hq Hq16 LN
          go_wp2_with fail
          refine LN2.out.mono ?_
          rintro e w7 ⟨rfl, hb⟩
          have K8 := Lib.hid (K7.out.keep hb)
          have R8 := Lib.hid (own_keep R7.out hb)
          have B8 := Lib.hid (B7.out.trans (hb.mono B7.out.size))
          have S8 := Lib.hid (Nat.le_trans S7.out hb.size)
          clear hb LN2 K7 R7 B7
          have HMv := Lib.hid (Move_any Bk b s1 P3 x y w7 HXY.out.1 HXY.out.2 K8.out)
          have hm := len_move s1 x y
          have hmo := fun i hi hne => move_other s1 x y i hi hne
          obtain ⟨s2, hs2⟩ : ∃ s, (moveV s1 x y).2 = s := ⟨_, rfl⟩
          rw [hs2] at HMv hm hmo
          rw [HS.out] at hm hmo
          have HS2 := Lib.hid hm
          have HMO := Lib.hid hmo
          clear hs2 hm hmo
          go_wp2_with fail
          refine HMv.out.mono ?_
          rintro e w8 ⟨rfl, P8, k1, k2, k3⟩
          have K9 := Lib.hid k1
          have R9 := Lib.hid (own_only R8.out k2 (fun j hj e => by have := lo6.out j hj; have := LT.out j e; omega))
          have B9 := Lib.hid (show Below B w w8 from only_below (show Below B w w7 from (B3.out.trans (B8.out.mono S3.out))) k2 S8.out (fun j hj => OB3.out j hj))
          have S9 := Lib.hid (Nat.le_trans S8.out k2.size)
          have OB9 := Lib.hid (show ∀ j, P8 j → B ≤ j from fun j hj => (k3 j hj).elim (OB3.out j) (fun e => Nat.le_trans S8.out e))
          have LT9 := Lib.hid (show ∀ j, P8 j → j < w8.heap.size from fun j hj => (k1.lt j hj).2)
          have AL := Lib.hid (show Calls Try.prog 17 #[at0 b] w8 fun e w' => (∃ a c, e = .returned (.slice a n c) ∧ w'.ownsRow w8.heap.size 41 3 (.slice a n c) n (flHd s2.H)) ∧ Below w8.heap.size w8 w' by have := All_any Bk b s2 P8 w8 k1; rw [HS2.out] at this; exact this)
          clear k1 k2 k3 HMv K8 R8 B8
          go_wp2_with fail
          refine AL.out.mono ?_
          rintro e w9 ⟨⟨a9, c9, rfl, hR⟩, hb⟩
          have RA := Lib.hid hR
          have loA := Lib.hid (show ∀ j, BA a9 j → w8.heap.size ≤ j ∧ j < w9.heap.size from fun j hj => ba_lt hR hj)
          have KA := Lib.hid (K9.out.keep hb)
          have RW := Lib.hid (own_keep R9.out hb)
          have BA' := Lib.hid (B9.out.trans (hb.mono S9.out))
          have SA := Lib.hid (Nat.le_trans S9.out hb.size)
          clear hR hb AL K9 R9 B9
          go_wp2_with fail
          go_loopw [21] (fun iv wr => ∃ i : Nat, i ≤ n ∧ iv = .int .i64 (i : Nat) ∧ Below w9.heap.size w9 wr) (fun iv _ => n - (intOf iv).toNat)
          case atStart => exact ⟨0, Nat.zero_le _, rfl, Below.refl _ _⟩
          case round =>
          obtain ⟨i, hi, rfl, hb⟩ := hrel
          have Hb9 := Lib.hid hb
          clear hb
          by_cases hlt : i < n
          · have d3 : decide ((i : Int) < (n : Int)) = true := decide_eq_true (by omega)
            have d3' : decide (i < n) = true := decide_eq_true hlt
            have wi : IntKind.i64.wrap ((i : Int) + 1) = (i : Int) + 1 := IntWalk.i64_in _ (by have := H16.out; omega)
            have i1 : (0 : Int) ≤ (i : Int) := by omega
            have i2 : (i : Int) < (n : Int) := by omega
            have Hlt := Lib.hid hlt
            by_cases hix : (i : Int) = x
            · have m1 : ((i : Int) != x) = false := by simp [hix]
              have m2 : ((i : Int) == x) = true := by simp [hix]
              clear hlt hi hix
              go_wp2_with fail
              go_quiet (fail)
              go_wp2_with fail
              exact ⟨⟨i + 1, Hlt.out, by go_num, Hb9.out.trans ((Fifo.below_drewN _ _).mono Hb9.out.size)⟩, by have := Hlt.out; simp [intOf]; omega⟩
            · have m1 : ((i : Int) != x) = true := by simp [hix]
              have m2 : ((i : Int) == x) = false := by simp [hix]
              obtain ⟨g, rfl⟩ := own_some RW.out (.inl (by omega))
              obtain ⟨g', rfl⟩ := own_some RA.out (.inl (by omega))
              obtain ⟨c0, c1, c2⟩ := row_at (own_keep RW.out Hb9.out) (k := i) (by rw [HS.out]; exact hlt)
              obtain ⟨e0, e1, e2⟩ := row_at (own_keep RA.out Hb9.out) (k := i) (by rw [HS2.out]; exact hlt)
              rw [HMO.out i hlt hix] at e0 e1 e2
              obtain ⟨z, hz⟩ : ∃ z, s1.H[i]! = z := ⟨_, rfl⟩
              rw [hz] at c0 c1 c2 e0 e1 e2
              have hne : ∀ w, (binOp .neq 41 (hV z) (hV z)).run Try.prog w = .ok (.bool false) w := fun w => by
                rw [run_neH, eqH_iff.2 rfl]; rfl
              clear hz hlt hi hix
              go_wp2_with fail
              go_quiet (fail)
              go_wp2_with fail
              exact ⟨⟨i + 1, Hlt.out, by go_num, Hb9.out.trans ((Fifo.below_drewN _ _).mono Hb9.out.size)⟩, by have := Hlt.out; simp [intOf]; omega⟩
          · have d3 : decide ((i : Int) < (n : Int)) = false := decide_eq_false (by omega)
            have d3' : decide (i < n) = false := decide_eq_false hlt
            have KB := Lib.hid (KA.out.keep Hb9.out)
            have RB := Lib.hid (own_keep RA.out Hb9.out)
            have BB := Lib.hid (BA'.out.trans (Hb9.out.mono SA.out))
            have SB := Lib.hid (Nat.le_trans SA.out Hb9.out.size)
            have HTk := Lib.hid (Tick_any Bk b s2 P8 wr KB.out)
            have HDN := Lib.hid (fun j (hj : j < (doneV s2).length) => done_in (s := s2) hj)
            have HDL := Lib.hid (show (doneV s2).length ≤ 16 from Nat.le_trans (nums_len _ _ _) (by rw [HS2.out]; exact H16.out))
            have HTL := Lib.hid (show (tickV s2).H.length = n by rw [← HS2.out]; simp [tickV])
            obtain ⟨D, hD⟩ : ∃ D, doneV s2 = D := ⟨_, rfl⟩
            obtain ⟨s3, hs3⟩ : ∃ s, tickV s2 = s := ⟨_, rfl⟩
            rw [hD] at HTk HDN HDL
            rw [hs3] at HTk HDN HTL
            obtain ⟨dn, hdn⟩ : ∃ m, D.length = m := ⟨_, rfl⟩
            rw [hdn] at HTk HDN HDL
            have HDD := Lib.hid hdn
            clear hlt hi hD hs3 hdn
            go_wp2_with fail
            refine HTk.out.mono ?_
            rintro e wt ⟨ta, tc, PT, rfl, hr, k1, k2, k3, k4⟩
            have KT := Lib.hid k1
            have RT := Lib.hid hr
            have RI := Lib.hid (own_only RB.out k2 (fun j hj e => by have := loA.out j hj; have := LT9.out j e; omega))
            have BT := Lib.hid (show Below B w wt from only_below BB.out k2 SB.out (fun j hj => OB9.out j hj))
            have ST := Lib.hid (Nat.le_trans SB.out k2.size)
            have AL := Lib.hid (show Calls Try.prog 17 #[at0 b] wt fun e w' => (∃ a c, e = .returned (.slice a n c) ∧ w'.ownsRow wt.heap.size 41 3 (.slice a n c) n (flHd s3.H)) ∧ Below wt.heap.size wt w' by have := All_any Bk b s3 PT wt k1; rw [HTL.out] at this; exact this)
            clear k1 k2 k3 k4 hr HTk KB RB BB
            go_wp2_with fail
            refine AL.out.mono ?_
            rintro e wn ⟨⟨an, cn, rfl, hR⟩, hb⟩
            have RN := Lib.hid hR
            have RT2 := Lib.hid (own_keep RT.out hb)
            have RI2 := Lib.hid (own_keep RI.out hb)
            have BN := Lib.hid (BT.out.trans (hb.mono ST.out))
            have SN := Lib.hid (Nat.le_trans ST.out hb.size)
            clear hR hb AL RT RI BT
            go_wp2_with fail
            go_loopw [24] (fun iv wr => ∃ j : Nat, j ≤ dn ∧ iv = .int .i64 (j : Nat) ∧ Below wn.heap.size wn wr) (fun iv _ => dn - (intOf iv).toNat)
            case atStart => exact ⟨0, Nat.zero_le _, rfl, Below.refl _ _⟩
            case round =>
            obtain ⟨j, hj, rfl, hb⟩ := hrel
            have Hbn := Lib.hid hb
            clear hb
            by_cases hlt : j < dn
            · have d4 : decide ((j : Int) < (dn : Int)) = true := decide_eq_true (by omega)
              have d4' : decide (j < dn) = true := decide_eq_true hlt
              have wj : IntKind.i64.wrap ((j : Int) + 1) = (j : Int) + 1 := IntWalk.i64_in _ (by have := HDL.out; omega)
              have i1 : (0 : Int) ≤ (j : Int) := by omega
              have i2 : (j : Int) < (dn : Int) := by omega
              have Hlt := Lib.hid hlt
              obtain ⟨gt, rfl⟩ := own_some RT2.out (.inl (by omega))
              have cj : wr.cell? ⟨gt, j, none⟩ = some (.int .i64 (D[j]! : Nat)) := by
                have := (own_keep RT2.out Hbn.out).cellAt j (by omega)
                rw [this]
                have hjD : j < D.length := by rw [HDD.out]; exact hlt
                simp [iv, hjD]
              obtain ⟨x1, x2, x3⟩ := HDN.out j hlt
              rw [HS2.out] at x1
              obtain ⟨z, hz⟩ : ∃ z, D[j]! = z := ⟨_, rfl⟩
              rw [hz] at cj x1 x2 x3
              obtain ⟨gi, rfl⟩ := own_some RI2.out (.inl (by omega))
              obtain ⟨gn, rfl⟩ := own_some RN.out (.inl (by omega))
              obtain ⟨c0, c1, c2⟩ := row_at (own_keep RI2.out Hbn.out) (k := z) (by rw [HS2.out]; exact x1)
              obtain ⟨e0, e1, e2⟩ := row_at (own_keep RN.out Hbn.out) (k := z) (by rw [HTL.out]; exact x1)
              rw [x3] at e0 e1 e2
              rw [x2] at c1
              obtain ⟨nv, hnv⟩ : ∃ v, s2.H[z]!.n = v := ⟨_, rfl⟩
              simp only at e0 e1 e2
              rw [hnv] at e0 c2
              have z1 : decide ((z : Int) < 0) = false := decide_eq_false (by omega)
              have z2 : decide ((n : Int) ≤ (z : Int)) = false := decide_eq_false (by omega)
              have z2' : decide (n ≤ z) = false := decide_eq_false (by omega)
              have z3 : (0 : Int) ≤ (z : Int) := by omega
              have z4 : (z : Int) < (n : Int) := by omega
              have vv : (nv != nv) = false := by simp
              clear c0 e2 x1 x2 x3 hz hnv hlt hj
              go_wp2_with fail
              go_quiet (fail)
              go_wp2_with fail
              exact ⟨⟨j + 1, Hlt.out, by go_num, Hbn.out.trans ((Fifo.below_drewN _ _).mono Hbn.out.size)⟩, by have := Hlt.out; simp [intOf]; omega⟩
            · have d4 : decide ((j : Int) < (dn : Int)) = false := decide_eq_false (by omega)
              have d4' : decide (j < dn) = false := decide_eq_false hlt
              have nn2 : ((n : Int) == (n : Int)) = true := by simp
              have BZ := Lib.hid (BN.out.trans (Hbn.out.mono SN.out))
              clear hlt hj
              go_wp2_with fail
              go_ret
              exact ⟨by first | rfl | simp, BZ.out⟩
    · have d0 : decide ((200 : Int) < (len1 : Int)) = true := decide_eq_true (by omega)
      have d0' : decide (200 < len1) = true := decide_eq_true (by omega)
      clear h200
      go_wp2_with fail
      go_ret
      exact ⟨rfl, B2.out⟩
end Go.Proofs.Ytmdepkehpohgeaa.Scr
