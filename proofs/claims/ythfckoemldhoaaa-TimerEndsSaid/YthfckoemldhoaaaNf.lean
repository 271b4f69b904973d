/- The walk of TimerDoes. -/
import Derived.Test.YthfckoemldhoaaaNe
import Derived.Test.YthfckoemldhoaaaPk
import Derived.Deep.RegionHeld3
import Derived.Deep.RegionWith
namespace Go.Proofs.Ythfckoemldhoaaa.Timer
open Go.RowKit Go.Maps Go.ChangeShapes Go.WideShapes Go.ChangeAt Fifo Orow Word
set_option linter.unusedVariables false

theorem does_far (s : St) (a : Option Addr) (len cap : Nat) (w : World) (h300 : 300 < len) :
    Calls Try.prog 3 #[stv s, .slice a len cap] w fun e w' => e = .returned (.bool true) ∧ Below w.heap.size w w' := by
  have d1 : decide ((300 : Int) < (len : Int)) = true := decide_eq_true (by omega)
  go_enter Try.func3, Try.ntmps3
  go_wp2_with fail
  refine (awake_any _).mono ?_
  rintro e w1 ⟨rfl, hb⟩
  have ha := (Below.refl w.heap.size w).alloc (Nat.le_refl _) (.cells (cells s).toArray 24)
  have Hb := Lib.hid (ha.trans (hb.mono ha.size))
  clear hb ha
  go_wp2_with fail
  go_ret
  exact ⟨rfl, Hb.out⟩
set_option maxRecDepth 100000 in
set_option maxHeartbeats 8000000 in
theorem does_near (s0 : St) (a : Option Addr) (len cap : Nat) (l : List Dd) (w : World) (hs : OkS s0) (hl : RowDd w a len l) (h300 : len ≤ 300) :
    Calls Try.prog 3 #[stv s0, .slice a len cap] w fun e w' => e = .returned (.bool true) ∧ Below w.heap.size w w' := by
  obtain ⟨B, hB⟩ : ∃ B, w.heap.size = B := ⟨_, rfl⟩
  have HB := Lib.hid hB
  have hB0 : B ≤ w.heap.size := by omega
  have Hl := Lib.hid hl
  have Hs := Lib.hid hs
  have d1 : decide ((300 : Int) < (len : Int)) = false := decide_eq_false (by omega)
  have hk0 := hs.k.1
  have hk8 : Int.tmod s0.K 8 = s0.K % 8 := Int.tmod_eq_emod_of_nonneg hk0
  have ha0 := (Below.refl w.heap.size w).alloc (Nat.le_refl _) (.cells (cells s0).toArray 24)
  have HA0 := Lib.hid ha0
  have A0 := Lib.hid (show AtS (w.alloc (.cells (cells s0).toArray 24)) w.heap.size s0 from AtS.of (Blk.new w _ _))
  obtain ⟨C, L, Q, H⟩ := s0
  clear hl hs hB ha0
  obtain ⟨a0, a1, a2, a3⟩ := A0.out
  go_enter Try.func3, Try.ntmps3
  go_wp2_with fail
  refine (Of_hold (fun j => j < B) ⟨C, L, Q, H⟩ _ Hs.out (fun j hj => Nat.lt_of_lt_of_le hj (Nat.le_trans hB0 HA0.out.size))).mono ?_
  rintro e w1 ⟨⟨b, rfl, hh⟩, hb1⟩
  have B1 := Lib.hid (HA0.out.trans (hb1.mono HA0.out.size))
  have P1 := Lib.hid hh
  have A1 := Lib.hid (A0.out.keep hb1)
  clear hh hb1 a0 a1 a2 a3 A0 HA0
  obtain ⟨a0, a1, a2, a3⟩ := A1.out
  go_wp2_with fail
  obtain ⟨R, hR⟩ : ∃ R, w1.heap.size = R := ⟨_, rfl⟩
  rw [hR]
  refine code_letter ?_
  intro X hX
  obtain ⟨K, hK⟩ : ∃ K : Nat → Prop, K = fun j => j < B ∨ j = R := ⟨_, rfl⟩
  have hal := (Below.refl w1.heap.size w1).alloc (Nat.le_refl _) (.cells (cells (ofS ⟨C, L, Q, H⟩)).toArray 29)
  have PX := Lib.hid (show Hold K X b (ofS ⟨C, L, Q, H⟩) by rw [hX.out, hK]; exact P1.out.also hal (fun j => j = R) (fun j e => by rw [e, ← hR]; exact ⟨Nat.le_refl _, by simp⟩))
  have KR : K R := by rw [hK]; exact .inr rfl
  have KB := Lib.hid (show ∀ j, j < B → K j by intro j hj; rw [hK]; exact .inl hj)
  have hB1 := B1.out.size
  have BX := Lib.hid (show Below B w X by rw [hX.out, ← HB.out]; exact B1.out.alloc hB1 _)
  have AX := Lib.hid (show Blk X R 29 (cells (ofS ⟨C, L, Q, H⟩)) by rw [hX.out, ← hR]; exact Blk.new w1 _ _)
  have hRB : B ≤ R := by rw [← hR, ← HB.out]; exact hB1
  clear hal hX hK P1 B1 hB1 a0 a1 a2 a3 A1 Hs hk0 hk8 hR d1
  go_loopw [7] (fun i wr => ∃ (k : Nat) (s : St), k ≤ len ∧ i = .int .i64 k ∧ Hold K wr b s ∧ Blk wr R 29 (cells s) ∧ Below B w wr) (fun i _ => len - (intOf i).toNat)
  case atStart => exact ⟨0, _, Nat.zero_le _, rfl, PX.out, AX.out, BX.out⟩
  case round =>
  clear PX AX BX
  obtain ⟨k, s, hk, rfl, hP, hA, hBl⟩ := hrel
  have P := Lib.hid hP
  have A := Lib.hid hA
  have BL := Lib.hid hBl
  have Ok := Lib.hid hP.ok
  obtain ⟨C, L, Q, H⟩ := s
  clear hP hA hBl
  obtain ⟨a0, a1, a2, a3⟩ := AtS.of A.out
  by_cases hlt : k < len
  · have d1 : decide ((k : Int) < (len : Int)) = true := decide_eq_true (by omega)
    have i1 : (0 : Int) ≤ (k : Int) := by omega
    have i2 : (k : Int) < (len : Int) := by omega
    obtain ⟨b0, off, rfl, ce⟩ := Hl.out.2.2 k hlt
    have CE := Lib.hid (fun W (hb : Below B w W) => ce.keep (by rw [HB.out]; exact hb))
    have hok := Hl.out.2.1 k hlt
    have hb0 : b0 < B := by have := cell_lt ce.c0; rw [← HB.out]; exact this
    obtain ⟨x, hx⟩ : ∃ x, l[k]! = x := ⟨_, rfl⟩
    rw [hx] at CE hok
    obtain ⟨xw, xr, xn, xv⟩ := x
    obtain ⟨hw, hr, hn, hv⟩ := hok
    obtain ⟨p, hp, HPk⟩ := Pk.pick_is xw 3 (by omega) (by omega)
    have HPk := Lib.hid HPk
    clear hx ce
    go_wp2_with fail
    refine (same_any K b ⟨C, L, Q, H⟩ wr P.out).mono ?_
    rintro e w1 ⟨rfl, hb⟩
    have hBs := BL.out.size
    have B1 := Lib.hid (BL.out.trans (hb.mono (Nat.le_trans hB0 hBs)))
    have P1 := Lib.hid (P.out.keep hb)
    have A1 := Lib.hid (A.out.keep hb)
    obtain ⟨c0, c1, c2, c3⟩ := CE.out _ B1.out
    clear hb a0 a1 a2 a3 P A BL hBs
    go_wp2_with fail
    refine (HPk.out _).mono ?_
    rintro e w1' ⟨rfl, rfl⟩
    clear HPk
    by_cases hp2 : p < 2
    · have u1 : decide ((p : Int) < 2) = true := decide_eq_true (by omega)
      have u2 : decide (p < 2) = true := decide_eq_true hp2
      have q1 : ∀ w', Only (fun j => ¬ K j) w1 w' → w'.cell? ⟨b0, off + k * 4 + 1, none⟩ = some (.int .i64 xr) := fun w' h => only_cell h (fun e => e (KB.out _ hb0)) c1
      have q3 : ∀ w', Only (fun j => ¬ K j) w1 w' → w'.cell? ⟨b0, off + k * 4 + 3, none⟩ = some (.int .u32 xv) := fun w' h => only_cell h (fun e => e (KB.out _ hb0)) c3
      have HW1 := Lib.hid (fun W (hP : Hold K W b ⟨C, L, Q, H⟩) => Write_hold K b ⟨C, L, Q, H⟩ xr xv W hr hv hP)
      have hp0 : Hold K w1.drew b ⟨C, L, Q, H⟩ := P1.out.keep (Below.refl _ _).drew
      clear c0 c1 c2 c3
      go_wp2_with fail
      go_region_held3 (fun w' => Only (fun j => ¬ K j) w1 w')
        (first | assumption | exact only_drew2 (Only.refl _ _))
        (first
          | (go_at_call 11; refine (HW1.out _ (by assumption)).mono ?_; rintro e w' ⟨rfl, hp1, hoo⟩; have hoS : Only (fun j => ¬ K j) w1 w' := Only.trans (by assumption) hoo))
      refine exit_letter ?_
      intro Y hY
      have hoY : Only (fun j => ¬ K j) w1 Y := by rw [hY.out]; assumption
      have P2 := Lib.hid (show Hold K Y b (writeS ⟨C, L, Q, H⟩ xr xv) by rw [hY.out]; exact hp1)
      have A2 := Lib.hid (A1.out.only hoY (fun e => e KR))
      have B2 := Lib.hid (below_only B1.out hoY hB0 KB.out)
      obtain ⟨c0, c1, c2, c3⟩ := CE.out _ B2.out
      obtain ⟨a0, a1, a2, a3⟩ := AtS.of A2.out
      have f0 := A2.out.frozen 0
      have f1 := A2.out.frozen 1
      have f2 := A2.out.frozen 2
      have f3 := A2.out.frozen 3
      obtain ⟨s2, hs2⟩ : ∃ s2, writeS ⟨C, L, Q, H⟩ xr xv = s2 := ⟨_, rfl⟩
      have HWr := Lib.hid (fun W => rWrite_any ⟨C, L, Q, H⟩ xr xv W hv)
      rw [hs2] at P2 HWr
      obtain ⟨C2, L2, Q2, H2⟩ := s2
      clear hY hoY q1 q3 HW1 hp0 hp1 hs2 A1 P1 B1
      go_wp2_with fail
      go_region_with (go_at_call 12; refine (HWr.out _).mono ?_; rintro e w3 ⟨rfl, hb⟩; have hbY := Lib.hid ((Below.refl Y.heap.size Y).drew.trans hb); have A3 := Lib.hid (A2.out.keep hbY.out); have g0 := A3.out.at 0 rfl; have g1 := A3.out.at 1 rfl; have g2 := A3.out.at 2 rfl; have g3 := A3.out.at 3 rfl; have h0 := A3.out.frozen 0; have h1 := A3.out.frozen 1; have h2 := A3.out.frozen 2; have h3 := A3.out.frozen 3)
      all_goals
        refine exit_letter ?_
        intro Z hZ
        have hA4 : Blk Z R 29 (cells ⟨C2, L2, Q2, H2⟩) := by rw [hZ.out]; exact (((A3.out.set 0 _).set 1 _).set 2 _).set 3 _
        have hoR : Only (fun j => j = R) Y Z := by
          rw [hZ.out]
          exact (Only.of_below hbY.out).trans (((((Only.refl (fun j => j = R) w3).setCell (p := ⟨R, 0, none⟩) rfl _).setCell (p := ⟨R, 1, none⟩) rfl _).setCell (p := ⟨R, 2, none⟩) rfl _).setCell (p := ⟨R, 3, none⟩) rfl _)
        have hBs2 := B2.out.size
        have P4 := Lib.hid (P2.out.far KR hoR)
        have A4 := Lib.hid hA4
        have B4 := Lib.hid (B2.out.trans (hoR.below (Nat.le_trans hB0 hBs2) (fun j e => by rw [e]; exact hRB)))
        clear hZ hA4 hoR hBs2 A3 hbY g0 g1 g2 g3 h0 h1 h2 h3 f0 f1 f2 f3 a0 a1 a2 a3 c0 c1 c2 c3 hb P2 A2 B2 HWr
        go_wp2_with fail
        exact ⟨⟨k + 1, ⟨C2, L2, Q2, H2⟩, by omega, by go_num, P4.out, A4.out, B4.out⟩, by simp [intOf]; omega⟩
    · have u1 : decide ((p : Int) < 2) = false := decide_eq_false (by omega)
      have u2 : decide (p < 2) = false := decide_eq_false hp2
      obtain ⟨p9, hp9, HP9⟩ := Pk.pick_is xn 9 (by omega) (by omega)
      have HP9 := Lib.hid HP9
      clear c0 c1 c2 c3
      go_wp2_with fail
      clear u1 u2
      go_loopw [8] (fun q wr => ∃ (q' : Nat) (s : St), q' ≤ p9 ∧ q = .int .i64 q' ∧ Hold K wr b s ∧ Blk wr R 29 (cells s) ∧ Below B w wr) (fun q _ => p9 - (intOf q).toNat)
      case atStart => exact ⟨0, _, Nat.zero_le _, rfl, P1.out, A1.out, B1.out⟩
      case round =>
      clear P1 A1 B1
      obtain ⟨q, s, hq, rfl, hP, hA, hBl⟩ := hrel
      have P := Lib.hid hP
      have A := Lib.hid hA
      have BL := Lib.hid hBl
      have Ok := Lib.hid hP.ok
      obtain ⟨c0, c1, c2, c3⟩ := CE.out _ BL.out
      clear hP hA hBl
      go_wp2_with fail
      refine (HP9.out _).mono ?_
      rintro e w2 ⟨rfl, rfl⟩
      clear c0 c1 c2 c3
      by_cases hlq : q < p9
      · have v1 : decide ((q : Int) < (p9 : Int)) = true := decide_eq_true (by omega)
        have v2 : decide (q < p9) = true := decide_eq_true hlq
        go_wp2_with fail
        refine (Tick_hold K b s wr P.out).mono ?_
        rintro e w3 ⟨rfl, hh, ho⟩
        have P3 := Lib.hid hh
        have A3 := Lib.hid (A.out.only ho (fun e => e KR))
        have B3 := Lib.hid (below_only BL.out ho hB0 KB.out)
        obtain ⟨a0, a1, a2, a3⟩ := AtS.of A3.out
        have HT := Lib.hid (fun W => rTick_any s W Ok.out.1)
        obtain ⟨s2, hs2⟩ : ∃ s2, tickS s = s2 := ⟨_, rfl⟩
        rw [hs2] at P3 HT
        obtain ⟨C, L, Q, H⟩ := s
        obtain ⟨C2, L2, Q2, H2⟩ := s2
        clear hh ho hs2 v1 v2
        go_wp2_with fail
        refine (HT.out _).mono ?_
        rintro e w4 ⟨rfl, hb4⟩
        have A4 := Lib.hid (A3.out.keep hb4)
        have P4 := Lib.hid (P3.out.keep hb4)
        have hBs3 := B3.out.size
        have B4 := Lib.hid (B3.out.trans (hb4.mono (Nat.le_trans hB0 hBs3)))
        clear hb4 a0 a1 a2 a3 A3 P3 B3 HT hBs3
        go_wp2_with (with_reducible refine at_store _ _ _ rfl ?_)
        refine Lib.hid ?_
        refine store_all rfl _ _ _ rfl R (cells ⟨C2, L2, Q2, H2⟩) rfl rfl _ _ A4.out (by kernel_rfl) rfl (by simp [Value.oneCell']) ?_
        intro Z hA5 hoR
        have hBs4 := B4.out.size
        have P5 := Lib.hid (P4.out.far KR hoR)
        have A5 := Lib.hid hA5
        have B5 := Lib.hid (B4.out.trans (hoR.below (Nat.le_trans hB0 hBs4) (fun j e => by rw [e]; exact hRB)))
        clear hA5 hoR hBs4 A4 P4 B4
        go_wp2_with fail
        exact ⟨⟨q + 1, ⟨C2, L2, Q2, H2⟩, by omega, by go_num, P5.out, A5.out, B5.out⟩, by simp [intOf]; omega⟩
      · obtain rfl : q = p9 := by omega
        have v1 : decide ((q : Int) < (q : Int)) = false := decide_eq_false (by omega)
        have v2 : decide (q < q) = false := decide_eq_false (by omega)
        go_wp2_with fail
        exact ⟨⟨k + 1, s, by omega, by go_num, P.out, A.out, BL.out⟩, by simp [intOf]; omega⟩
  · obtain rfl : k = len := by omega
    have d1 : decide ((k : Int) < (k : Int)) = false := decide_eq_false (by omega)
    have d2 : decide (k < k) = false := decide_eq_false (by omega)
    go_wp2_with fail
    refine (same_any K b ⟨C, L, Q, H⟩ wr P.out).mono ?_
    rintro e w1 ⟨rfl, hb⟩
    have hBs := BL.out.size
    have B1 := Lib.hid (BL.out.trans (hb.mono (Nat.le_trans hB0 hBs)))
    clear hb hBs
    go_wp2_with fail
    refine (awake_any _).mono ?_
    rintro e w2 ⟨rfl, hb⟩
    have hBs := B1.out.size
    have B2 := Lib.hid (B1.out.trans (hb.mono (Nat.le_trans hB0 hBs)))
    clear hb hBs
    go_wp2_with fail
    go_ret
    exact ⟨rfl, by rw [HB.out]; exact B2.out⟩
theorem does_any (s : St) (a : Option Addr) (len cap : Nat) (l : List Dd) (w : World) (hs : OkS s) (hl : RowDd w a len l) :
    Calls Try.prog 3 #[stv s, .slice a len cap] w fun e w' => e = .returned (.bool true) ∧ Below w.heap.size w w' := by
  by_cases h : 300 < len
  · exact does_far s a len cap w h
  · exact does_near s a len cap l w hs hl (by omega)
theorem wf_u32 {x : Int} (h : (Lit.int .u32 x).wf = true) : 0 ≤ x ∧ x < 4294967296 := by
  simp only [Lit.wf, Bool.and_eq_true, decide_eq_true_eq] at h
  have h1 : IntKind.u32.min = 0 := rfl
  have h2 : IntKind.u32.max = 4294967295 := rfl
  omega
theorem does_walk (C L Q H : Int) (a : Option Addr) (len cap : Nat) (l : List Dd) (w : World) (h0 : (Lit.int .u32 C).wf = true) (h1 : (Lit.int .u32 L).wf = true) (h2 : (Lit.int .u32 Q).wf = true) (h3 : (Lit.int .u32 H).wf = true) (hl : RowDd w a len l) (k1 : a = none → len = 0 ∧ cap = 0) (k2 : len ≤ cap) (k3 : len ≤ maxLen) :
    Calls Try.prog 3 #[.agg #[.int .u32 C, .int .u32 L, .int .u32 Q, .int .u32 H], .slice a len cap] w fun e w' => e = .returned (.bool true) ∧ Below w.heap.size w w' :=
  does_any ⟨C, L, Q, H⟩ a len cap l w ⟨wf_u32 h0, wf_u32 h1, wf_u32 h2, wf_u32 h3⟩ hl
end Go.Proofs.Ythfckoemldhoaaa.Timer
