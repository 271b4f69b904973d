/- The walk of TimerWrites. -/
import Derived.Test.YthfckoemldhoaaaNe
import Derived.OpenShut
namespace Go.Proofs.Ythfckoemldhoaaa.Timer
open Go.RowKit Go.Maps Go.ChangeShapes Go.WideShapes Go.ChangeAt Fifo Orow Word
set_option linter.unusedVariables false

theorem wfu32 {x : Int} (h : (Lit.int .u32 x).wf = true) : 0 ≤ x ∧ x < 4294967296 := by
  simp only [Lit.wf, Bool.and_eq_true, decide_eq_true_eq] at h
  have h1 : IntKind.u32.min = 0 := rfl
  have h2 : IntKind.u32.max = 4294967295 := rfl
  omega
theorem wf64 {x : Int} (h : (Lit.int .i64 x).wf = true) : I64 x := by
  simp only [Lit.wf, Bool.and_eq_true, decide_eq_true_eq] at h
  have h1 : IntKind.i64.min = -9223372036854775808 := rfl
  have h2 : IntKind.i64.max = 9223372036854775807 := rfl
  unfold I64
  omega
theorem tick_facts {s : St} (h : OkS s) (h8 : s.K < 8) : s.H ≤ (tickS s).H ∧ (tickS s).L = s.L ∧ ((tickS s).K = s.K ∨ s.K % 2 = 1 ∧ (tickS s).K = s.K - 1) ∧ (s.K % 2 = 0 → tickS s = s) := by
  have hk := h.k
  unfold tickS
  split
  · exact ⟨Int.le_refl _, rfl, .inl rfl, fun _ => rfl⟩
  · rename_i h1
    have h2 : s.K % 2 = 1 := by omega
    split
    · exact ⟨Int.le_refl _, rfl, .inl rfl, fun e => absurd e h1⟩
    split
    · exact ⟨by show s.H ≤ (if s.H < 4294967295 then s.H + 1 else s.H); split <;> omega, rfl, .inl rfl, fun e => absurd e h1⟩
    · exact ⟨by show s.H ≤ (if s.H < 4294967295 then s.H + 1 else s.H); split <;> omega, rfl, .inr ⟨h2, rfl⟩, fun e => absurd e h1⟩
theorem or_tick {s : St} (h : OkS s) (h8 : s.K < 8) : bits .or .u32 (tickS s).K 1 = bits .or .u32 s.K 1 := by
  have hk := h.k
  rcases (tick_facts h h8).2.2.1 with e | ⟨h1, e⟩
  · rw [e]
  · rw [e]
    have : s.K = 1 ∨ s.K = 3 ∨ s.K = 5 ∨ s.K = 7 := by omega
    rcases this with e | e | e | e <;> rw [e] <;> decide
/-- What is wanted of a register. -/
theorem want_same (s : St) (reg v : Int) (k : Int) (hk : k = 0 ∨ k = 1 ∨ k = 2 ∨ k = 3) (hne : ¬ k = reg) : readS (writeS s reg v) k = readS s k := by
  rcases reg_cases reg with rfl | rfl | rfl | rfl | ⟨h0, h1, h2, h3⟩
  · rcases hk with rfl | rfl | rfl | rfl <;> simp [readS, writeS] at hne ⊢
  · rcases hk with rfl | rfl | rfl | rfl <;> simp [readS, writeS] at hne ⊢
  · rcases hk with rfl | rfl | rfl | rfl <;> simp [readS, writeS] at hne ⊢
  · rcases hk with rfl | rfl | rfl | rfl <;> simp [readS, writeS] at hne ⊢
  · unfold writeS
    rw [if_neg h0, if_neg h1, if_neg h2, if_neg h3]
set_option maxRecDepth 100000 in
set_option maxHeartbeats 8000000 in
theorem writes_walk (C L Q H reg v : Int) (w : World) (h0 : (Lit.int .u32 C).wf = true) (h1 : (Lit.int .u32 L).wf = true) (h2 : (Lit.int .u32 Q).wf = true) (h3 : (Lit.int .u32 H).wf = true) (h4 : (Lit.int .i64 reg).wf = true) (h5 : (Lit.int .u32 v).wf = true) :
    Calls Try.prog 6 #[.agg #[.int .u32 C, .int .u32 L, .int .u32 Q, .int .u32 H], .int .i64 reg, .int .u32 v] w fun e w' => e = .returned (.bool true) ∧ Below w.heap.size w w' := by
  have hs : OkS ⟨C, L, Q, H⟩ := ⟨wfu32 h0, wfu32 h1, wfu32 h2, wfu32 h3⟩
  have hr := wf64 h4
  have hv := wfu32 h5
  have hs0 := okS_of hs
  have Hs := Lib.hid hs
  have hQ1 := (wfu32 h2).1
  obtain ⟨B, hB⟩ : ∃ B, w.heap.size = B := ⟨_, rfl⟩
  have HB := Lib.hid hB
  have hB0 : B ≤ w.heap.size := by omega
  have A0 := Lib.hid (show AtS (w.alloc (.cells (cells ⟨C, L, Q, H⟩).toArray 24)) w.heap.size ⟨C, L, Q, H⟩ from AtS.of (Blk.new w _ _))
  have BA0 := Lib.hid (show Below B w (w.alloc (.cells (cells ⟨C, L, Q, H⟩).toArray 24)) by rw [← hB]; exact (Below.refl w.heap.size w).alloc (Nat.le_refl _) _)
  clear h0 h1 h2 h3 h4 h5 hs hB
  go_enter Try.func6, Try.ntmps6
  go_wp2_with fail
  refine (awake_any _).mono ?_
  rintro e w1 ⟨rfl, hb⟩
  have hBs := BA0.out.size
  have B1 := Lib.hid (BA0.out.trans (hb.mono (Nat.le_trans hB0 hBs)))
  have A1 := Lib.hid (A0.out.keep hb)
  obtain ⟨a0, a1, a2, a3⟩ := A1.out
  clear hb hBs A0 BA0
  go_wp2_with fail
  have hBs := B1.out.size
  refine (Of_hold (fun j => j < B) ⟨C, L, Q, H⟩ w1 Hs.out (fun j hj => Nat.lt_of_lt_of_le hj (Nat.le_trans hB0 hBs))).mono ?_
  rintro e w2 ⟨⟨b, rfl, hh⟩, hb⟩
  have B2 := Lib.hid (B1.out.trans (hb.mono (Nat.le_trans hB0 hBs)))
  have P2 := Lib.hid hh
  clear hh hb hBs a0 a1 a2 a3 A1 B1
  obtain ⟨s1, hs1⟩ : ∃ s1, ofS ⟨C, L, Q, H⟩ = s1 := ⟨_, rfl⟩
  rw [hs1] at P2 hs0
  have Hs1 := Lib.hid hs0
  obtain ⟨C1, L1, Q1, H1⟩ := s1
  clear hs1 hs0
  go_wp2_with fail
  refine (State_hold _ b _ w2 P2.out).mono ?_
  rintro e w3 ⟨rfl, hb⟩
  obtain ⟨R, hR⟩ : ∃ R, w3.heap.size = R := ⟨_, rfl⟩
  obtain ⟨K, hK⟩ : ∃ K : Nat → Prop, K = fun j => j < B ∨ j = R := ⟨_, rfl⟩
  obtain ⟨X, hX⟩ : ∃ X, X = w3.alloc (.cells (cells ⟨C1, L1, Q1, H1⟩).toArray 24) := ⟨_, rfl⟩
  have hal := (Below.refl w3.heap.size w3).alloc (Nat.le_refl _) (.cells (cells ⟨C1, L1, Q1, H1⟩).toArray 24)
  have PX := Lib.hid (show Hold K X b ⟨C1, L1, Q1, H1⟩ by rw [hX, hK]; exact (P2.out.keep hb).also hal (fun j => j = R) (fun j e => by rw [e, ← hR]; exact ⟨Nat.le_refl _, by simp⟩))
  have AX := Lib.hid (show AtS X R ⟨C1, L1, Q1, H1⟩ by rw [hX, ← hR]; exact AtS.of (Blk.new w3 _ _))
  have KR : K R := by rw [hK]; exact .inr rfl
  have KB := Lib.hid (show ∀ j, j < B → K j by intro j hj; rw [hK]; exact .inl hj)
  have hBs := B2.out.size
  have B3 := B2.out.trans (hb.mono (Nat.le_trans hB0 hBs))
  have BX := Lib.hid (show Below B w X by rw [hX]; exact B3.alloc (Nat.le_trans hB0 B3.size) _)
  have HX := Lib.hid hX
  clear hb hal hK hX hBs B3 B2 P2
  go_wp2_with fail
  refine calls_letter ?_
  intro X' hX'
  obtain rfl : X' = X := by rw [hX'.out, HX.out]
  clear hX' HX hR
  refine (Write_hold K b _ reg v X' hr hv PX.out).mono ?_
  rintro e w4 ⟨rfl, hh, ho⟩
  have P4 := Lib.hid hh
  have hw1 := okS_write Hs1.out.1 Hs1.out.2 reg v hv
  have A4 := Lib.hid (show AtS w4 R ⟨C1, L1, Q1, H1⟩ from ⟨only_cell ho (fun e => e KR) AX.out.c0, only_cell ho (fun e => e KR) AX.out.c1, only_cell ho (fun e => e KR) AX.out.c2, only_cell ho (fun e => e KR) AX.out.c3⟩)
  have B4 := Lib.hid (below_only BX.out ho hB0 KB.out)
  obtain ⟨s2, hs2⟩ : ∃ s2, writeS ⟨C1, L1, Q1, H1⟩ reg v = s2 := ⟨_, rfl⟩
  have Want := Lib.hid (fun k hk hne => want_same ⟨C1, L1, Q1, H1⟩ reg v k hk hne)
  have Have := Lib.hid (show ∀ k, k = reg → readS s2 k = readS (writeS ⟨C1, L1, Q1, H1⟩ k v) k by rintro k rfl; rw [hs2])
  rw [hs2] at P4 hw1 Want
  have Hs2 := Lib.hid hw1
  clear hh ho hs2 hw1 PX AX BX
  go_wp2_with fail
  go_loopw [9] (fun i wr => ∃ k : Nat, k ≤ 4 ∧ i = .int .i64 k ∧ Below w4.heap.size w4 wr) (fun i _ => 4 - (intOf i).toNat)
  case atStart => exact ⟨0, by omega, rfl, Below.refl _ _⟩
  case round =>
  obtain ⟨k, hk, rfl, hb⟩ := hrel
  have Hb := Lib.hid hb
  clear hb
  by_cases hlt : k < 4
  · have d1 : decide ((k : Int) < 4) = true := decide_eq_true (by omega)
    obtain ⟨a0, a1, a2, a3⟩ := A4.out.keep Hb.out
    have hI : I64 (k : Int) := ⟨by omega, by omega⟩
    have hk4 : k = 0 ∨ k = 1 ∨ k = 2 ∨ k = 3 := by omega
    have hN := Hs1.out.1
    by_cases hreg : (k : Int) = reg
    · rcases hk4 with rfl | rfl | rfl | rfl
      · have hx : readS s2 0 = v := by rw [Have.out 0 hreg]; rfl
        have e1 : ((0 : Int) == reg) = true := by simp [← hreg]
        have e2 : decide ((0 : Int) = reg) = true := decide_eq_true hreg
        have HRd := Lib.hid (fun W' (hb : Below wr.heap.size wr W') => Read_hold K b s2 0 W' ⟨by omega, by omega⟩ ((P4.out.keep Hb.out).keep hb))
        rw [hx] at HRd
        have xx : ((v) != (v)) = false := by simp
        have Hreg := Lib.hid hreg
        clear hx hreg
        go_wp2_with fail
        refine calls_letter ?_
        intro X hX
        have hsz := Hb.out.size
        have hbX := Lib.hid (show Below wr.heap.size wr X by rw [hX.out]; exact ((Below.refl _ _).alloc (Nat.le_refl _) _).alloc (by simp) _)
        clear hX a0 a1 a2 a3
        refine (HRd.out _ hbX.out).mono ?_
        rintro e w5 ⟨rfl, hb5⟩
        have hs5 := hbX.out.size
        have hb6 := Lib.hid (hbX.out.trans (hb5.mono hs5))
        clear hb5 hs5 hbX
        go_wp2_with fail
        refine (HRd.out _ hb6.out).mono ?_
        rintro e w6 ⟨rfl, hb5⟩
        have hs5 := hb6.out.size
        have hb7 := Lib.hid (Hb.out.trans ((hb6.out.trans (hb5.mono hs5)).mono hsz))
        clear hb5 hs5 hb6 HRd
        go_wp2_with fail
        exact ⟨⟨1, by omega, by go_num, hb7.out⟩, by simp [intOf]⟩
      · have hx : readS s2 1 = v := by rw [Have.out 1 hreg]; rfl
        have e1 : ((1 : Int) == reg) = true := by simp [← hreg]
        have e2 : decide ((1 : Int) = reg) = true := decide_eq_true hreg
        have HRd := Lib.hid (fun W' (hb : Below wr.heap.size wr W') => Read_hold K b s2 1 W' ⟨by omega, by omega⟩ ((P4.out.keep Hb.out).keep hb))
        rw [hx] at HRd
        have xx : ((v) != (v)) = false := by simp
        have Hreg := Lib.hid hreg
        clear hx hreg
        go_wp2_with fail
        refine calls_letter ?_
        intro X hX
        have hsz := Hb.out.size
        have hbX := Lib.hid (show Below wr.heap.size wr X by rw [hX.out]; exact ((Below.refl _ _).alloc (Nat.le_refl _) _).alloc (by simp) _)
        clear hX a0 a1 a2 a3
        refine (HRd.out _ hbX.out).mono ?_
        rintro e w5 ⟨rfl, hb5⟩
        have hs5 := hbX.out.size
        have hb6 := Lib.hid (hbX.out.trans (hb5.mono hs5))
        clear hb5 hs5 hbX
        go_wp2_with fail
        refine (HRd.out _ hb6.out).mono ?_
        rintro e w6 ⟨rfl, hb5⟩
        have hs5 := hb6.out.size
        have hb7 := Lib.hid (Hb.out.trans ((hb6.out.trans (hb5.mono hs5)).mono hsz))
        clear hb5 hs5 hb6 HRd
        go_wp2_with fail
        exact ⟨⟨2, by omega, by go_num, hb7.out⟩, by simp [intOf]⟩
      · have hx : readS s2 2 = v % 8 := by rw [Have.out 2 hreg]; rfl
        have e1 : ((2 : Int) == reg) = true := by simp [← hreg]
        have e2 : decide ((2 : Int) = reg) = true := decide_eq_true hreg
        have HRd := Lib.hid (fun W' (hb : Below wr.heap.size wr W') => Read_hold K b s2 2 W' ⟨by omega, by omega⟩ ((P4.out.keep Hb.out).keep hb))
        rw [hx] at HRd
        have xx : ((v % 8) != (v % 8)) = false := by simp
        have Hreg := Lib.hid hreg
        clear hx hreg
        go_wp2_with fail
        refine calls_letter ?_
        intro X hX
        have hsz := Hb.out.size
        have hbX := Lib.hid (show Below wr.heap.size wr X by rw [hX.out]; exact ((Below.refl _ _).alloc (Nat.le_refl _) _).alloc (by simp) _)
        clear hX a0 a1 a2 a3
        refine (HRd.out _ hbX.out).mono ?_
        rintro e w5 ⟨rfl, hb5⟩
        have hs5 := hbX.out.size
        have hb6 := Lib.hid (hbX.out.trans (hb5.mono hs5))
        clear hb5 hs5 hbX
        go_wp2_with fail
        refine (HRd.out _ hb6.out).mono ?_
        rintro e w6 ⟨rfl, hb5⟩
        have hs5 := hb6.out.size
        have hb7 := Lib.hid (Hb.out.trans ((hb6.out.trans (hb5.mono hs5)).mono hsz))
        clear hb5 hs5 hb6 HRd
        go_wp2_with fail
        exact ⟨⟨3, by omega, by go_num, hb7.out⟩, by simp [intOf]⟩
      · have hx : readS s2 3 = (0 : Int) := by rw [Have.out 3 hreg]; rfl
        have e1 : ((3 : Int) == reg) = true := by simp [← hreg]
        have e2 : decide ((3 : Int) = reg) = true := decide_eq_true hreg
        have HRd := Lib.hid (fun W' (hb : Below wr.heap.size wr W') => Read_hold K b s2 3 W' ⟨by omega, by omega⟩ ((P4.out.keep Hb.out).keep hb))
        rw [hx] at HRd
        have xx : (((0 : Int)) != ((0 : Int))) = false := by simp
        have Hreg := Lib.hid hreg
        clear hx hreg
        go_wp2_with fail
        refine calls_letter ?_
        intro X hX
        have hsz := Hb.out.size
        have hbX := Lib.hid (show Below wr.heap.size wr X by rw [hX.out]; exact ((Below.refl _ _).alloc (Nat.le_refl _) _).alloc (by simp) _)
        clear hX a0 a1 a2 a3
        refine (HRd.out _ hbX.out).mono ?_
        rintro e w5 ⟨rfl, hb5⟩
        have hs5 := hbX.out.size
        have hb6 := Lib.hid (hbX.out.trans (hb5.mono hs5))
        clear hb5 hs5 hbX
        go_wp2_with fail
        refine (HRd.out _ hb6.out).mono ?_
        rintro e w6 ⟨rfl, hb5⟩
        have hs5 := hb6.out.size
        have hb7 := Lib.hid (Hb.out.trans ((hb6.out.trans (hb5.mono hs5)).mono hsz))
        clear hb5 hs5 hb6 HRd
        go_wp2_with fail
        exact ⟨⟨4, by omega, by go_num, hb7.out⟩, by simp [intOf]⟩
    · rcases hk4 with rfl | rfl | rfl | rfl
      · have hx : readS s2 0 = C1 := by rw [Want.out 0 (by omega) hreg]; rfl
        have e1 : ((0 : Int) == reg) = false := by simp; exact hreg
        have e2 : decide ((0 : Int) = reg) = false := decide_eq_false hreg
        have HRd := Lib.hid (fun W' (hb : Below wr.heap.size wr W') => Read_hold K b s2 0 W' ⟨by omega, by omega⟩ ((P4.out.keep Hb.out).keep hb))
        rw [hx] at HRd
        have xx : ((C1) != (C1)) = false := by simp
        have Hreg := Lib.hid hreg
        clear hx hreg
        go_wp2_with fail
        refine calls_letter ?_
        intro X hX
        have hsz := Hb.out.size
        have hbX := Lib.hid (show Below wr.heap.size wr X by rw [hX.out]; exact (Below.refl _ _).alloc (Nat.le_refl _) _)
        clear hX a0 a1 a2 a3
        refine (HRd.out _ hbX.out).mono ?_
        rintro e w5 ⟨rfl, hb5⟩
        have hs5 := hbX.out.size
        have hb6 := Lib.hid (hbX.out.trans (hb5.mono hs5))
        clear hb5 hs5 hbX
        go_wp2_with fail
        refine (HRd.out _ hb6.out).mono ?_
        rintro e w6 ⟨rfl, hb5⟩
        have hs5 := hb6.out.size
        have hb7 := Lib.hid (Hb.out.trans ((hb6.out.trans (hb5.mono hs5)).mono hsz))
        clear hb5 hs5 hb6 HRd
        go_wp2_with fail
        exact ⟨⟨1, by omega, by go_num, hb7.out⟩, by simp [intOf]⟩
      · have hx : readS s2 1 = L1 := by rw [Want.out 1 (by omega) hreg]; rfl
        have e1 : ((1 : Int) == reg) = false := by simp; exact hreg
        have e2 : decide ((1 : Int) = reg) = false := decide_eq_false hreg
        have HRd := Lib.hid (fun W' (hb : Below wr.heap.size wr W') => Read_hold K b s2 1 W' ⟨by omega, by omega⟩ ((P4.out.keep Hb.out).keep hb))
        rw [hx] at HRd
        have xx : ((L1) != (L1)) = false := by simp
        have Hreg := Lib.hid hreg
        clear hx hreg
        go_wp2_with fail
        refine calls_letter ?_
        intro X hX
        have hsz := Hb.out.size
        have hbX := Lib.hid (show Below wr.heap.size wr X by rw [hX.out]; exact (Below.refl _ _).alloc (Nat.le_refl _) _)
        clear hX a0 a1 a2 a3
        refine (HRd.out _ hbX.out).mono ?_
        rintro e w5 ⟨rfl, hb5⟩
        have hs5 := hbX.out.size
        have hb6 := Lib.hid (hbX.out.trans (hb5.mono hs5))
        clear hb5 hs5 hbX
        go_wp2_with fail
        refine (HRd.out _ hb6.out).mono ?_
        rintro e w6 ⟨rfl, hb5⟩
        have hs5 := hb6.out.size
        have hb7 := Lib.hid (Hb.out.trans ((hb6.out.trans (hb5.mono hs5)).mono hsz))
        clear hb5 hs5 hb6 HRd
        go_wp2_with fail
        exact ⟨⟨2, by omega, by go_num, hb7.out⟩, by simp [intOf]⟩
      · have hx : readS s2 2 = Q1 := by rw [Want.out 2 (by omega) hreg]; rfl
        have e1 : ((2 : Int) == reg) = false := by simp; exact hreg
        have e2 : decide ((2 : Int) = reg) = false := decide_eq_false hreg
        have HRd := Lib.hid (fun W' (hb : Below wr.heap.size wr W') => Read_hold K b s2 2 W' ⟨by omega, by omega⟩ ((P4.out.keep Hb.out).keep hb))
        rw [hx] at HRd
        have xx : ((Q1) != (Q1)) = false := by simp
        have Hreg := Lib.hid hreg
        clear hx hreg
        go_wp2_with fail
        refine calls_letter ?_
        intro X hX
        have hsz := Hb.out.size
        have hbX := Lib.hid (show Below wr.heap.size wr X by rw [hX.out]; exact (Below.refl _ _).alloc (Nat.le_refl _) _)
        clear hX a0 a1 a2 a3
        refine (HRd.out _ hbX.out).mono ?_
        rintro e w5 ⟨rfl, hb5⟩
        have hs5 := hbX.out.size
        have hb6 := Lib.hid (hbX.out.trans (hb5.mono hs5))
        clear hb5 hs5 hbX
        go_wp2_with fail
        refine (HRd.out _ hb6.out).mono ?_
        rintro e w6 ⟨rfl, hb5⟩
        have hs5 := hb6.out.size
        have hb7 := Lib.hid (Hb.out.trans ((hb6.out.trans (hb5.mono hs5)).mono hsz))
        clear hb5 hs5 hb6 HRd
        go_wp2_with fail
        exact ⟨⟨3, by omega, by go_num, hb7.out⟩, by simp [intOf]⟩
      · have hx : readS s2 3 = H1 := by rw [Want.out 3 (by omega) hreg]; rfl
        have e1 : ((3 : Int) == reg) = false := by simp; exact hreg
        have e2 : decide ((3 : Int) = reg) = false := decide_eq_false hreg
        have HRd := Lib.hid (fun W' (hb : Below wr.heap.size wr W') => Read_hold K b s2 3 W' ⟨by omega, by omega⟩ ((P4.out.keep Hb.out).keep hb))
        rw [hx] at HRd
        have xx : ((H1) != (H1)) = false := by simp
        have Hreg := Lib.hid hreg
        clear hx hreg
        go_wp2_with fail
        refine calls_letter ?_
        intro X hX
        have hsz := Hb.out.size
        have hbX := Lib.hid (show Below wr.heap.size wr X by rw [hX.out]; exact (Below.refl _ _).alloc (Nat.le_refl _) _)
        clear hX a0 a1 a2 a3
        refine (HRd.out _ hbX.out).mono ?_
        rintro e w5 ⟨rfl, hb5⟩
        have hs5 := hbX.out.size
        have hb6 := Lib.hid (hbX.out.trans (hb5.mono hs5))
        clear hb5 hs5 hbX
        go_wp2_with fail
        refine (HRd.out _ hb6.out).mono ?_
        rintro e w6 ⟨rfl, hb5⟩
        have hs5 := hb6.out.size
        have hb7 := Lib.hid (Hb.out.trans ((hb6.out.trans (hb5.mono hs5)).mono hsz))
        clear hb5 hs5 hb6 HRd
        go_wp2_with fail
        exact ⟨⟨4, by omega, by go_num, hb7.out⟩, by simp [intOf]⟩
  · have H4 := Lib.hid (show k = 4 by omega)
    have d1 : decide ((k : Int) < 4) = false := decide_eq_false (by omega)
    clear Want Have hk hlt
    go_wp2_with fail
    refine (State_hold K b s2 wr (P4.out.keep Hb.out)).mono ?_
    rintro e w5 ⟨rfl, hb5⟩
    have hs4 := Hb.out.size
    have hs0 := B4.out.size
    have P5 := Lib.hid ((P4.out.keep Hb.out).keep hb5)
    have B5 := Lib.hid (B4.out.trans ((Hb.out.trans (hb5.mono hs4)).mono (Nat.le_trans hB0 hs0)))
    obtain ⟨I, hI⟩ : ∃ I, w5.heap.size = I := ⟨_, rfl⟩
    obtain ⟨K', hK'⟩ : ∃ K' : Nat → Prop, K' = fun j => K j ∨ j = I := ⟨_, rfl⟩
    obtain ⟨C2, L2, Q2, H2⟩ := s2
    obtain ⟨Y, hY⟩ : ∃ Y, Y = w5.alloc (.cells (cells ⟨C2, L2, Q2, H2⟩).toArray 24) := ⟨_, rfl⟩
    have hal := (Below.refl w5.heap.size w5).alloc (Nat.le_refl _) (.cells (cells ⟨C2, L2, Q2, H2⟩).toArray 24)
    have PY := Lib.hid (show Hold K' Y b ⟨C2, L2, Q2, H2⟩ by rw [hY, hK']; exact P5.out.also hal (fun j => j = I) (fun j e => by rw [e, ← hI]; exact ⟨Nat.le_refl _, by simp⟩))
    have AY := Lib.hid (show AtS Y I ⟨C2, L2, Q2, H2⟩ by rw [hY, ← hI]; exact AtS.of (Blk.new w5 _ _))
    have KI : K' I := by rw [hK']; exact .inr rfl
    have KB' := Lib.hid (show ∀ j, j < B → K' j by intro j hj; rw [hK']; exact .inl (KB.out j hj))
    have hs5 := B5.out.size
    have BY := Lib.hid (show Below B w Y by rw [hY]; exact B5.out.alloc (Nat.le_trans hB0 hs5) _)
    have HY := Lib.hid hY
    clear hb5 hs4 hs0 hs5 hal hK' hY P5 B5 P4 A4 B4 Hb
    go_wp2_with fail
    refine calls_letter ?_
    intro Y' hY'
    obtain rfl : Y' = Y := by rw [hY'.out, HY.out]
    clear hY' HY hI
    refine (Tick_hold K' b _ Y' PY.out).mono ?_
    rintro e w7 ⟨rfl, hh, ho⟩
    have P7 := Lib.hid hh
    have A7 := Lib.hid (show AtS w7 I ⟨C2, L2, Q2, H2⟩ from ⟨only_cell ho (fun e => e KI) AY.out.c0, only_cell ho (fun e => e KI) AY.out.c1, only_cell ho (fun e => e KI) AY.out.c2, only_cell ho (fun e => e KI) AY.out.c3⟩)
    have B7 := Lib.hid (below_only BY.out ho hB0 KB'.out)
    obtain ⟨s3, hs3⟩ : ∃ s3, tickS ⟨C2, L2, Q2, H2⟩ = s3 := ⟨_, rfl⟩
    have tf := tick_facts Hs2.out.1 Hs2.out.2
    have ot := or_tick Hs2.out.1 Hs2.out.2
    rw [hs3] at P7 tf ot
    obtain ⟨C3, L3, Q3, H3⟩ := s3
    obtain ⟨t1, t2, -, t4⟩ := tf
    have t1 : H2 ≤ H3 := t1
    obtain rfl : L2 = L3 := Eq.symm t2
    have t4 := Lib.hid (show Q2 % 2 = 0 → (⟨C3, L2, Q3, H3⟩ : St) = ⟨C2, L2, Q2, H2⟩ from t4)
    have ot := Lib.hid (show bits .or .u32 Q3 1 = bits .or .u32 Q2 1 from ot)
    clear hh ho hs3 t2 PY AY BY
    go_wp2_with fail
    refine (State_hold K' b _ w7 P7.out).mono ?_
    rintro e w8 ⟨rfl, hb8⟩
    have hs7 := B7.out.size
    have B8 := Lib.hid (B7.out.trans (hb8.mono (Nat.le_trans hB0 hs7)))
    have A8 := Lib.hid (A7.out.keep hb8)
    obtain ⟨J, hJ⟩ : ∃ J, w8.heap.size = J := ⟨_, rfl⟩
    have hal := (Below.refl w8.heap.size w8).alloc (Nat.le_refl _) (.cells #[.int .u32 C3, .int .u32 L2, .int .u32 Q3, .int .u32 H3] 24)
    have hs8 := B8.out.size
    obtain ⟨i0, i1, i2, i3⟩ := show AtS (w8.alloc (.cells #[.int .u32 C3, .int .u32 L2, .int .u32 Q3, .int .u32 H3] 24)) I ⟨C2, L2, Q2, H2⟩ from A8.out.keep hal
    obtain ⟨n0, n1, n2, n3⟩ := show AtS (w8.alloc (.cells #[.int .u32 C3, .int .u32 L2, .int .u32 Q3, .int .u32 H3] 24)) J ⟨C3, L2, Q3, H3⟩ by rw [← hJ]; exact AtS.of (Blk.new w8 _ _)
    have BZ := Lib.hid (show Below B w (w8.alloc (.cells #[.int .u32 C3, .int .u32 L2, .int .u32 Q3, .int .u32 H3] 24)) from B8.out.alloc (Nat.le_trans hB0 hs8) _)
    have hq0 : 0 ≤ Q2 := Hs2.out.1.k.1
    have hgh : decide (H2 ≤ H3) = true := decide_eq_true t1
    have hor : (bits .or .u32 Q3 1 == bits .or .u32 Q2 1) = true := by rw [ot.out]; simp
    have x1 : (C2 == C2) = true := by simp
    have x2 : (L2 == L2) = true := by simp
    have x3 : (Q2 == Q2) = true := by simp
    have x4 : (H2 == H2) = true := by simp
    clear hb8 hs7 hs8 hal P7 A7 B7 A8 B8 ot t1
    by_cases hq : Q2 % 2 = 1
    · have Hq := Lib.hid hq
      have g1 : (Q2 % 2 == 1) = true := by simp [hq]
      have g2 : decide (Q2 % 2 = 1) = true := decide_eq_true hq
      clear hq t4
      go_wp2_with fail
      refine post_letter ?_
      intro Z hZ
      have BF := BZ.out
      rw [← hZ.out] at BF
      clear hZ i0 i1 i2 i3 n0 n1 n2 n3
      go_ret
      exact ⟨rfl, by rw [HB.out]; exact BF⟩
    · have h0 : Q2 % 2 = 0 := by omega
      have te := t4.out h0
      injection te with te1 te2 te3 te4
      obtain rfl : C2 = C3 := Eq.symm te1
      obtain rfl : Q2 = Q3 := Eq.symm te3
      obtain rfl : H2 = H3 := Eq.symm te4
      have g1 : (Q2 % 2 == 1) = false := by simp [h0]
      have g2 : decide (Q2 % 2 = 1) = false := decide_eq_false hq
      clear hq h0 t4 te1 te2 te3 te4
      go_wp2_with fail
      refine post_letter ?_
      intro Z hZ
      have BF := BZ.out
      rw [← hZ.out] at BF
      clear hZ i0 i1 i2 i3 n0 n1 n2 n3
      go_ret
      exact ⟨rfl, by rw [HB.out]; exact BF⟩
end Go.Proofs.Ythfckoemldhoaaa.Timer
