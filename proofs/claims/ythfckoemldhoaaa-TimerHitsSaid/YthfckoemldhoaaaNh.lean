/- The walk of TimerHits. -/
import Derived.Test.YthfckoemldhoaaaNe
import Derived.Test.YthfckoemldhoaaaNp
import Derived.Test.YthfckoemldhoaaaPk
import Derived.IntWalk
namespace Go.Proofs.Ythfckoemldhoaaa.Timer
open Go.RowKit Go.Maps Go.ChangeShapes Go.WideShapes Go.ChangeAt Fifo Orow Word
set_option linter.unusedVariables false

theorem wfh32 {x : Int} (h : (Lit.int .u32 x).wf = true) : 0 ≤ x ∧ x < 4294967296 := by
  simp only [Lit.wf, Bool.and_eq_true, decide_eq_true_eq] at h
  have h1 : IntKind.u32.min = 0 := rfl
  have h2 : IntKind.u32.max = 4294967295 := rfl
  omega
theorem wfh64 {x : Int} (h : (Lit.int .i64 x).wf = true) : I64 x := by
  simp only [Lit.wf, Bool.and_eq_true, decide_eq_true_eq] at h
  have h1 : IntKind.i64.min = -9223372036854775808 := rfl
  have h2 : IntKind.i64.max = 9223372036854775807 := rfl
  unfold I64
  omega
set_option maxRecDepth 100000 in
set_option maxHeartbeats 8000000 in
theorem hits_walk (C L Q T : Int) (w : World) (h0 : (Lit.int .u32 C).wf = true) (h1 : (Lit.int .u32 L).wf = true) (h2 : (Lit.int .u32 Q).wf = true) (h4 : (Lit.int .i64 T).wf = true) :
    Calls Try.prog 5 #[.int .u32 C, .int .u32 L, .int .u32 Q, .int .i64 T] w fun e w' => e = .returned (.bool true) ∧ Below w.heap.size w w' := by
  have hs : OkS ⟨C, L, Q, 0⟩ := ⟨wfh32 h0, wfh32 h1, wfh32 h2, by show (0 : Int) ≤ 0 ∧ (0 : Int) < _; omega⟩
  have ht := wfh64 h4
  have Hs := Lib.hid hs
  have hQ1 := (wfh32 h2).1
  obtain ⟨n, hn, HP0⟩ := Pk.pick_is T 300 (by omega) (by omega)
  have HP := Lib.hid HP0
  have Hn := Lib.hid hn
  obtain ⟨B, hB⟩ : ∃ B, w.heap.size = B := ⟨_, rfl⟩
  have HB := Lib.hid hB
  have hB0 : B ≤ w.heap.size := by omega
  obtain ⟨c, hc⟩ : ∃ c, Q % 8 = c := ⟨_, rfl⟩
  have Hcb := Lib.hid (show 0 ≤ c ∧ c < 8 by omega)
  have Hc := Lib.hid hc
  clear h0 h1 h2 h4 hs hB ht hn HP0
  go_enter Try.func5, Try.ntmps5
  go_wp2_with fail
  refine (awake_any _).mono ?_
  rintro e w1 ⟨rfl, hb⟩
  have B1 := Lib.hid (show Below B w w1 by rw [← HB.out]; exact hb)
  clear hb
  go_wp2_with fail
  refine (HP.out _).mono ?_
  rintro e w1' ⟨rfl, rfl⟩
  clear HP
  go_wp2_with fail
  have hBs := B1.out.size
  refine (Of_hold (fun j => j < B) ⟨C, L, Q, 0⟩ w1 Hs.out (fun j hj => Nat.lt_of_lt_of_le hj (Nat.le_trans hB0 hBs))).mono ?_
  rintro e w2 ⟨⟨b, rfl, hh⟩, hb⟩
  have B2 := Lib.hid (B1.out.trans (hb.mono (Nat.le_trans hB0 hBs)))
  have hso : ofS ⟨C, L, Q, 0⟩ = ⟨C, L, c, 0⟩ := by show (⟨C, L, Q % 8, 0⟩ : St) = _; rw [Hc.out]
  rw [hso] at hh
  have P2 := Lib.hid hh
  have hok := okS_of Hs.out
  rw [hso] at hok
  have Hok := Lib.hid (show OkS ⟨C, L, c, 0⟩ ∧ c < 8 from hok)
  clear hh hb hBs hso hok B1
  go_wp2_with fail
  clear hc hQ1
  go_loopw [12] (fun i wr => ∃ k : Nat, k ≤ n ∧ i = .int .i64 k ∧ Hold (fun j => j < B) wr b (tk k ⟨C, L, c, 0⟩) ∧ Below B w wr) (fun i _ => n - (intOf i).toNat)
  case atStart => exact ⟨0, by omega, rfl, P2.out, B2.out⟩
  case round =>
  clear P2 B2
  obtain ⟨k, hk, rfl, hP, hBl⟩ := hrel
  have P := Lib.hid hP
  have BL := Lib.hid hBl
  clear hP hBl
  have Hk := Lib.hid hk
  by_cases hlt : k < n
  · have d1 : decide ((k : Int) < (n : Int)) = true := decide_eq_true (by omega)
    have d2 : decide (k < n) = true := decide_eq_true hlt
    have hn := Hn.out
    go_wp2_with fail
    refine (Tick_hold (fun j => j < B) b _ wr P.out).mono ?_
    rintro e w3 ⟨rfl, hh, ho⟩
    have P3 := Lib.hid (show Hold (fun j => j < B) w3 b (tk (k + 1) ⟨C, L, c, 0⟩) from hh)
    have B3 := Lib.hid (below_only BL.out ho hB0 (fun j h => h))
    clear hh ho P BL
    go_wp2_with fail
    exact ⟨⟨k + 1, by omega, by go_num, P3.out, B3.out⟩, by simp [intOf]; omega⟩
  · have d1 : decide ((k : Int) < (n : Int)) = false := decide_eq_false (by omega)
    have d2 : decide (k < n) = false := decide_eq_false hlt
    have Hkn := Lib.hid (show k = n by omega)
    have P3 := Lib.hid (show Hold (fun j => j < B) wr b (tk n ⟨C, L, c, 0⟩) by rw [← Hkn.out]; exact P.out)
    have hn := Hn.out
    obtain ⟨hcc, hll, -, -⟩ := Hok.out.1
    have hcb := Hcb.out
    have hcc : 0 ≤ C ∧ C < 4294967296 := hcc
    have hll : 0 ≤ L ∧ L < 4294967296 := hll
    have x1 : (C == C) = true := by simp
    have x2 : (L == L) = true := by simp
    have x3 : (c == c) = true := by simp
    clear P hk hlt
    by_cases h2 : c % 2 = 0
    · rw [tk_off (show (⟨C, L, c, 0⟩ : St).K % 2 = 0 from h2)] at P3
      have e1 : (c % 2 == 0) = true := by simp [h2]
      have e2 : decide (c % 2 = 0) = true := decide_eq_true h2
      clear h2
      go_wp2_with fail
      refine (State_hold _ b _ wr P3.out).mono ?_
      rintro e w5 ⟨rfl, hb5⟩
      have hs5 := BL.out.size
      have B5 := Lib.hid (BL.out.trans (hb5.mono (Nat.le_trans hB0 hs5)))
      clear hb5
      go_wp2_with fail
      refine post_letter ?_
      intro Z hZ
      have hs5 := B5.out.size
      have BF : Below B w Z := by rw [hZ.out]; exact B5.out.alloc (Nat.le_trans hB0 hs5) _
      clear hZ
      go_ret
      exact ⟨rfl, by rw [HB.out]; exact BF⟩
    have h21 : c % 2 = 1 := by omega
    have e1 : (c % 2 == 0) = false := by simp [h2]
    have e2 : decide (c % 2 = 0) = false := decide_eq_false h2
    by_cases hle : L ≤ C
    · obtain ⟨s3, hs3⟩ : ∃ s3, tk n ⟨C, L, c, 0⟩ = s3 := ⟨_, rfl⟩
      rw [hs3] at P3
      obtain ⟨C3, L3, Q3, H3⟩ := s3
      have f1 : decide (L ≤ C) = true := decide_eq_true hle
      clear h2 h21 hle hs3
      go_wp2_with fail
      refine (State_hold _ b _ wr P3.out).mono ?_
      rintro e w5 ⟨rfl, hb5⟩
      have hs5 := BL.out.size
      have B5 := Lib.hid (BL.out.trans (hb5.mono (Nat.le_trans hB0 hs5)))
      clear hb5
      go_wp2_with fail
      refine post_letter ?_
      intro Z hZ
      have hs5 := B5.out.size
      have BF : Below B w Z := by rw [hZ.out]; exact B5.out.alloc (Nat.le_trans hB0 hs5) _
      clear hZ
      go_ret
      exact ⟨rfl, by rw [HB.out]; exact BF⟩
    have hlt : C < L := by omega
    have f1 : decide (L ≤ C) = false := decide_eq_false hle
    by_cases he : (n : Int) < L - C
    · rw [tk_early hcc.1 hll.2 h21 n (by omega)] at P3
      have f2 : decide ((n : Int) < L - C) = true := decide_eq_true he
      have f3 : IntKind.u32.wrap (C + (n : Int)) = C + (n : Int) := by
        show (C + (n : Int)) % 4294967296 = _
        omega
      have x5 : (C + (n : Int) == C + (n : Int)) = true := by simp
      clear h2 h21 hle
      go_wp2_with fail
      refine (State_hold _ b _ wr P3.out).mono ?_
      rintro e w5 ⟨rfl, hb5⟩
      have hs5 := BL.out.size
      have B5 := Lib.hid (BL.out.trans (hb5.mono (Nat.le_trans hB0 hs5)))
      clear hb5
      go_wp2_with fail
      refine post_letter ?_
      intro Z hZ
      have hs5 := B5.out.size
      have BF : Below B w Z := by rw [hZ.out]; exact B5.out.alloc (Nat.le_trans hB0 hs5) _
      clear hZ
      go_ret
      exact ⟨rfl, by rw [HB.out]; exact BF⟩
    have f2 : decide ((n : Int) < L - C) = false := decide_eq_false he
    by_cases h4 : c < 4
    · have f4 : decide (c < 4) = true := decide_eq_true h4
      rw [tk_once hcc.1 hll.2 hlt h21 n (by omega) (by omega)] at P3
      have x5 : (L == L) = true := by simp
      have hc13 : c = 1 ∨ c = 3 := by omega
      have hlf : ¬ (n : Int) < L - C := he
      clear h2 h21 hle he h4
      rcases hc13 with rfl | rfl
      · have P3 := Lib.hid (show Hold (fun j => j < B) wr b ⟨L, L, 0, 1⟩ from P3.out)
        go_wp2_with fail
        refine (State_hold _ b _ wr P3.out).mono ?_
        rintro e w5 ⟨rfl, hb5⟩
        have hs5 := BL.out.size
        have B5 := Lib.hid (BL.out.trans (hb5.mono (Nat.le_trans hB0 hs5)))
        have PL := Lib.hid (P3.out.keep hb5)
        clear hb5
        go_wp2_with fail
        have hal := (Below.refl w5.heap.size w5).alloc (Nat.le_refl _) (.cells #[.int .u32 L, .int .u32 L, .int .u32 (0 : Int), .int .u32 (1 : Int)] 24)
        refine (Line_hold _ b _ _ (PL.out.keep hal)).mono ?_
        rintro e w6 ⟨rfl, hb6⟩
        have hs5 := B5.out.size
        have B6 := Lib.hid ((B5.out.alloc (Nat.le_trans hB0 hs5) _).trans (hb6.mono (Nat.le_trans (Nat.le_trans hB0 hs5) hal.size)))
        clear hb6 hal
        go_wp2_with fail
        refine post_letter ?_
        intro Z hZ
        have BF : Below B w Z := by rw [hZ.out]; exact B6.out
        clear hZ
        go_ret
        exact ⟨rfl, by rw [HB.out]; exact BF⟩
      · have P3 := Lib.hid (show Hold (fun j => j < B) wr b ⟨L, L, 2, 1⟩ from P3.out)
        go_wp2_with fail
        refine (State_hold _ b _ wr P3.out).mono ?_
        rintro e w5 ⟨rfl, hb5⟩
        have hs5 := BL.out.size
        have B5 := Lib.hid (BL.out.trans (hb5.mono (Nat.le_trans hB0 hs5)))
        have PL := Lib.hid (P3.out.keep hb5)
        clear hb5
        go_wp2_with fail
        have hal := (Below.refl w5.heap.size w5).alloc (Nat.le_refl _) (.cells #[.int .u32 L, .int .u32 L, .int .u32 (2 : Int), .int .u32 (1 : Int)] 24)
        refine (Line_hold _ b _ _ (PL.out.keep hal)).mono ?_
        rintro e w6 ⟨rfl, hb6⟩
        have hs5 := B5.out.size
        have B6 := Lib.hid ((B5.out.alloc (Nat.le_trans hB0 hs5) _).trans (hb6.mono (Nat.le_trans (Nat.le_trans hB0 hs5) hal.size)))
        clear hb6 hal
        go_wp2_with fail
        refine post_letter ?_
        intro Z hZ
        have BF : Below B w Z := by rw [hZ.out]; exact B6.out
        clear hZ
        go_ret
        exact ⟨rfl, by rw [HB.out]; exact BF⟩
    · have f4 : decide (c < 4) = false := decide_eq_false h4
      obtain ⟨q, hq⟩ : ∃ q, ((n : Int) - (L - C)) / L = q := ⟨_, rfl⟩
      obtain ⟨r, hr⟩ : ∃ r, ((n : Int) - (L - C)) % L = r := ⟨_, rfl⟩
      have hm0 : 0 ≤ (n : Int) - (L - C) := by omega
      have hr0 : 0 ≤ r := by rw [← hr]; exact Int.emod_nonneg _ (by omega)
      have hr1 : r < L := by rw [← hr]; exact Int.emod_lt_of_pos _ (by omega)
      have hq0 : 0 ≤ q := by rw [← hq]; exact Int.ediv_nonneg hm0 (by omega)
      have hq1 : q ≤ (n : Int) - (L - C) := by rw [← hq]; exact Int.ediv_le_self _ hm0
      have tq : Int.tdiv ((n : Int) - (L - C)) L = q := by rw [Int.tdiv_eq_ediv_of_nonneg hm0]; exact hq
      have tr : Int.tmod ((n : Int) - (L - C)) L = r := by rw [Int.tmod_eq_emod_of_nonneg hm0]; exact hr
      rw [tk_more hcc.1 hll.2 hlt h21 n (by omega) hn (by omega), hq, hr] at P3
      have x5 : (r == r) = true := by simp
      have x6 : (1 + q == 1 + q) = true := by simp
      have x7 : (L == L) = true := by simp
      have hL0 : ¬ L = 0 := by omega
      have wn : IntKind.i64.wrap ((n : Int) - (L - C)) = (n : Int) - (L - C) := IntWalk.i64_in _ (by omega)
      have wL : IntKind.i64.wrap L = L := IntWalk.i64_in _ (by omega)
      have w1r : IntKind.u32.wrap r = r := by show r % 4294967296 = r; omega
      have w1q : IntKind.u32.wrap (1 + q) = 1 + q := by show (1 + q) % 4294967296 = _; omega
      have W := Lib.hid (And.intro wn (And.intro wL (And.intro w1r w1q)))
      have W2 := Lib.hid tr
      clear h2 h21 hle he h4 wn wL w1r w1q hr
      go_wp2_with fail
      refine (State_hold _ b _ wr P3.out).mono ?_
      rintro e w5 ⟨rfl, hb5⟩
      have hs5 := BL.out.size
      have B5 := Lib.hid (BL.out.trans (hb5.mono (Nat.le_trans hB0 hs5)))
      obtain ⟨J, hJ⟩ : ∃ J, w5.heap.size = J := ⟨_, rfl⟩
      have NJ := Lib.hid (show AtS (w5.alloc (.cells #[.int .u32 r, .int .u32 L, .int .u32 c, .int .u32 (1 + q)] 24)) J ⟨r, L, c, 1 + q⟩ by rw [← hJ]; exact AtS.of (Blk.new w5 _ _))
      have hs6 := B5.out.size
      have B6 := Lib.hid (B5.out.alloc (Nat.le_trans hB0 hs6) (.cells #[.int .u32 r, .int .u32 L, .int .u32 c, .int .u32 (1 + q)] 24))
      clear hb5 hs5 hs6
      go_wp2_with fail
      refine code_letter ?_
      intro Y hY
      obtain ⟨y0, y1, y2, y3⟩ := NJ.out
      rw [← hY.out] at y0 y1 y2 y3
      have BY := Lib.hid (show Below B w Y by rw [hY.out]; exact B6.out)
      obtain ⟨wn, wL, w1r, w1q⟩ := W.out
      have tr := W2.out
      clear hY hJ
      go_region
      clear wn wL w1r w1q tr
      refine exit_letter ?_
      intro Z hZ
      have BF : Below B w Z := by rw [hZ.out]; exact BY.out.trans ((Below.refl _ _).drew.mono (Nat.le_trans hB0 BY.out.size))
      clear hZ y0 y1 y2 y3
      go_wp2_with fail
      go_ret
      exact ⟨rfl, by rw [HB.out]; exact BF⟩
end Go.Proofs.Ythfckoemldhoaaa.Timer
