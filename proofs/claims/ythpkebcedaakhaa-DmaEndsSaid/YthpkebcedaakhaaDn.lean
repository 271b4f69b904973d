/- The walk of DmaMoves. -/
import Derived.Test.YthpkebcedaakhaaDm
namespace Go.Proofs.Ythpkebcedaakhaa.Dma
open Go.RowKit Go.Maps Fifo Orow
set_option linter.unusedVariables false

theorem blk_at {w : World} {g : Nat} (l : List Value) (t : TypeId) (h : w.heap.size = g) : Blk (w.alloc (.cells l.toArray t)) g t l := by rw [← h]; exact Blk.new w t l
theorem size_al {w : World} {g : Nat} (o : Obj) (h : w.heap.size = g) : (w.alloc o).heap.size = g + 1 := by simp [h]
theorem below_al {w0 w : World} (h : Below w0.heap.size w0 w) (o : Obj) : Below w0.heap.size w0 (w.alloc o) := h.alloc h.size o
/-- The five boxes. -/
structure Five (w : World) (B : Nat) (F T den world : Int) (vs : Value) : Prop where
  f : Blk w B 22 [.int .u32 F]
  t : Blk w (B + 1) 22 [.int .u32 T]
  v : Blk w (B + 2) 55 [vs]
  d : Blk w (B + 3) 3 [.int .i64 den]
  w : Blk w (B + 4) 3 [.int .i64 world]
theorem Five.only {S : Nat → Prop} {X Y : World} {B : Nat} {F T den world : Int} {vs : Value} (h : Five X B F T den world vs) (ho : Only S X Y) (hs : ∀ j, B ≤ j → j < B + 5 → ¬ S j) : Five Y B F T den world vs :=
  ⟨h.f.only ho (hs _ (by omega) (by omega)), h.t.only ho (hs _ (by omega) (by omega)), h.v.only ho (hs _ (by omega) (by omega)), h.d.only ho (hs _ (by omega) (by omega)), h.w.only ho (hs _ (by omega) (by omega))⟩
theorem Five.keep {X Y : World} {B : Nat} {F T den world : Int} {vs : Value} (h : Five X B F T den world vs) (hb : Below X.heap.size X Y) : Five Y B F T den world vs := h.only (S := fun _ => False) (Only.of_below hb) (fun _ _ _ e => e)
theorem five_new {w X : World} {B : Nat} {F T den world : Int} {vs : Value} (hB : w.heap.size = B) (hX : X = ((((w.alloc (.cells #[.int .u32 F] 22)).alloc (.cells #[.int .u32 T] 22)).alloc (.cells #[vs] 55)).alloc (.cells #[.int .i64 den] 3)).alloc (.cells #[.int .i64 world] 3)) :
    Five X B F T den world vs ∧ Below w.heap.size w X ∧ X.heap.size = B + 5 := by
  subst hX
  have s1 := size_al (.cells #[.int .u32 F] 22) hB
  have s2 := size_al (.cells #[.int .u32 T] 22) s1
  have s3 := size_al (.cells #[vs] 55) s2
  have s4 := size_al (.cells #[.int .i64 den] 3) s3
  exact ⟨⟨((((blk_at [_] _ hB).alloc _).alloc _).alloc _).alloc _, (((blk_at [_] _ s1).alloc _).alloc _).alloc _, ((blk_at [_] _ s2).alloc _).alloc _, (blk_at [_] _ s3).alloc _, blk_at [_] _ s4⟩, below_al (below_al (below_al (below_al (below_al (Below.refl _ _) _) _) _) _) _, size_al _ s4⟩
theorem three_new {w X : World} {g : Nat} (hB : w.heap.size = g) (hX : X = ((w.alloc (.cells #[.int .i64 0] 3)).alloc (.cells #[.bool true] 4)).alloc (.cells #[.int .u32 0] 22)) :
    (Blk X g 3 [.int .i64 0] ∧ Blk X (g + 1) 4 [.bool true] ∧ Blk X (g + 2) 22 [.int .u32 0]) ∧ Below w.heap.size w X ∧ X.heap.size = g + 3 := by
  subst hX
  have s1 := size_al (.cells #[.int .i64 0] 3) hB
  have s2 := size_al (.cells #[.bool true] 4) s1
  exact ⟨⟨((blk_at [_] _ hB).alloc _).alloc _, (blk_at [_] _ s1).alloc _, blk_at [_] _ s2⟩, below_al (below_al (below_al (Below.refl _ _) _) _) _, size_al _ s2⟩
theorem New_holdE (K : Nat → Prop) (w : World) (hK : ∀ j, K j → j < w.heap.size) :
    Calls Try.prog 19 #[] w fun e w' => (∃ b, e = .returned (.pointer (some ⟨b, 0, none⟩)) ∧ HoldE K w' b zeroE) ∧ Below w.heap.size w w' := by
  refine (New_any w).mono ?_
  rintro e w' ⟨⟨b, O, rfl, h1, h2⟩, hb⟩
  exact ⟨⟨b, rfl, O, h1, fun j hj k => by have := hK j k; have := h2 j hj; omega, fun j hj => Nat.lt_of_lt_of_le (hK j hj) hb.size⟩, hb⟩
theorem begin_mv {F T : Int} {n : Nat} (val : Nat → Int) (hF : 0 ≤ F ∧ F < 4294967296) (hT : 0 ≤ T ∧ T < 4294967296) (hn : 1 ≤ n) : writeE (writeE (writeE (writeE zeroE 0 F) 1 T) 2 n) 3 257 = mvE F T n val 0 := by
  have e1 : writeE (writeE (writeE zeroE 0 F) 1 T) 2 n = ⟨F, T, n, 0, false, false, false, false, false⟩ := by simp [writeE, zeroE]
  rw [e1]
  have e2 : ∀ s v, writeE s 3 v = ctrlE s v := fun s v => rfl
  rw [e2]
  unfold ctrlE mvE
  rw [if_neg (by decide), if_neg (by simp), if_pos (show 0 < (⟨F, T, (n : Int), 0, false, false, false, false, false⟩ : En).L by show (0 : Int) < n; omega), if_pos rfl]
  simp only [onA_zero hF, onA_zero hT, Nat.zero_div, En.mk.injEq, true_and]
  refine ⟨by omega, (decide_eq_true (by omega)).symm, (decide_eq_false (by omega)).symm, by decide⟩
/-- The state behind i steps, and what is held by the asker then. -/
def atE (F T : Int) (n : Nat) (val : Nat → Int) (den : Int) (i : Nat) : En := match i with | 0 => mvE F T n val 0 | i + 1 => endE F T n val i den
def heldV (val : Nat → Int) (i : Nat) : Int := match i with | 0 => 0 | i + 1 => val (i / 2)
theorem at_mv {F T : Int} {n : Nat} {val : Nat → Int} {den : Int} {i : Nat} (h : ∀ j : Nat, j < i → ¬ (j : Int) = den) : atE F T n val den i = mvE F T n val i := by
  cases i with
  | zero => rfl
  | succ i =>
    show endE F T n val i den = _
    unfold endE
    rw [if_neg (h i (by omega))]
theorem val_b {k : IntKind} {w : World} {a : Option Addr} {len : Nat} {l : List Int} (h : Row .u32 w a len l) (j : Nat) : 0 ≤ valV l j ∧ valV l j < 4294967296 := by
  obtain ⟨h1, h2, h3, _⟩ := h
  unfold valV
  by_cases hj : j < l.length
  · rw [List.getD_eq_getElem?_getD, List.getElem?_eq_getElem hj]
    exact wf_u32 (h3 _ (List.getElem_mem hj))
  · rw [List.getD_eq_getElem?_getD, List.getElem?_eq_none (by omega)]
    show (0 : Int) ≤ 0 ∧ (0 : Int) < _
    omega
theorem fin_den {F T : Int} {n d : Nat} {val : Nat → Int} (hd : d < 2 * n) : atE F T n val d (d + 1) = ⟨(F + 4 * (((d : Int) + 1) / 2)) % 4294967296, (T + 4 * ((d : Int) / 2)) % 4294967296, (n : Int) - (d : Int) / 2, 0, false, false, true, false, true⟩ := by
  show endE F T n val d d = _
  unfold endE
  rw [if_pos rfl]
  unfold toldE mvE
  rw [if_pos (by decide)]
  by_cases h : d % 2 = 0
  · rw [if_pos h]
    simp only [onA, En.mk.injEq, true_and, and_true]
    refine ⟨by omega, by omega, by omega, decide_eq_false (by omega)⟩
  · rw [if_neg h]
    simp only [onA, En.mk.injEq, and_true]
    refine ⟨by omega, by omega, by omega⟩
theorem fin_all {F T : Int} {n : Nat} {val : Nat → Int} {den : Int} (h : ∀ j : Nat, j < 2 * n → ¬ (j : Int) = den) : atE F T n val den (2 * n) = ⟨(F + 4 * (n : Int)) % 4294967296, (T + 4 * (n : Int)) % 4294967296, 0, 0, false, false, false, true, true⟩ := by
  rw [at_mv h]
  unfold mvE
  rw [if_pos (by omega)]
  have e : 2 * n / 2 = n := by omega
  simp only [e, onA, En.mk.injEq, true_and, and_true]
  refine ⟨by omega, decide_eq_false (by omega), decide_eq_true (by omega)⟩
theorem i64_wf {n : Int} (h : (Lit.int .i64 n).wf = true) : I64 n := by
  simp only [Lit.wf, Bool.and_eq_true, decide_eq_true_eq] at h
  have h1 : IntKind.i64.min = -9223372036854775808 := rfl
  have h2 : IntKind.i64.max = 9223372036854775807 := rfl
  unfold I64
  omega
theorem meas_mv {m i : Nat} (h : i < m) (e : wrap64 ((i : Int) + 1) = ((i + 1 : Nat) : Int)) : m - (intOf (.int .i64 (wrap64 ((i : Int) + 1)))).toNat < m - (intOf (.int .i64 (i : Int))).toNat := by
  rw [e]
  show m - (((i + 1 : Nat) : Int)).toNat < m - ((i : Int)).toNat
  omega
theorem below_only' {B : Nat} {w w' : World} (h : Below B w w') : Only (fun j => B ≤ j) w w' := ⟨h.os, h.tape, h.output, h.size, fun k hk hn => h.block k (Nat.lt_of_not_le hn)⟩
theorem moves_far (F T n0 den world : Int) (a : Option Addr) (len cap : Nat) (w : World) (hn : n0 < 1 ∨ 100 < n0) :
    Calls Try.prog 5 #[.int .u32 F, .int .u32 T, .int .i64 n0, .slice a len cap, .int .i64 den, .int .i64 world] w fun e w' => e = .returned (.bool true) ∧ Below w.heap.size w w' := by
  obtain ⟨B, hB⟩ : ∃ B, w.heap.size = B := ⟨_, rfl⟩
  have HB := Lib.hid hB
  have cases : (decide (n0 < 1) = true) ∨ (decide (n0 < 1) = false ∧ decide (100 < n0) = true) := by
    by_cases h : n0 < 1
    · exact .inl (decide_eq_true h)
    · exact .inr ⟨decide_eq_false h, decide_eq_true (by omega)⟩
  clear hn
  rcases cases with d1 | ⟨d1, d2⟩
  all_goals
    go_enter Try.func5, Try.ntmps5
    go_wp2_with fail
    refine calls_letter ?_
    intro W0 hW0
    have BW := Lib.hid (five_new HB.out hW0.out).2.1
    clear hW0
    refine (awake_any W0).mono ?_
    rintro e w1 ⟨rfl, hb⟩
    have B1 := Lib.hid (BW.out.trans (hb.mono BW.out.size))
    clear hb
    go_wp2_with fail
    go_ret
    exact ⟨rfl, B1.out⟩
set_option maxRecDepth 100000 in
set_option maxHeartbeats 8000000 in
theorem moves_a (F T world : Int) (n d : Nat) (a : Option Addr) (len cap : Nat) (l : List Int) (w : World) (hn : 1 ≤ n ∧ n ≤ 100) (hF : 0 ≤ F ∧ F < 4294967296) (hT : 0 ≤ T ∧ T < 4294967296) (hd : I64 (d : Int)) (hm : d < 2 * n) (hwd : I64 world) (hr : Row .u32 w a len l) :
    Calls Try.prog 5 #[.int .u32 F, .int .u32 T, .int .i64 n, .slice a len cap, .int .i64 (d : Int), .int .i64 world] w fun e w' => e = .returned (.bool true) ∧ Below w.heap.size w w' := by
  have hmf : ∀ w f r c, (Instr.makeFunc (.func f) r c).run Try.prog w = .ok (.func (.func f) r c) w := fun w f r c => rfl
  obtain ⟨B, hB⟩ : ∃ B, w.heap.size = B := ⟨_, rfl⟩
  have HB := Lib.hid hB
  have VB := Lib.hid (val_b (k := .u32) hr)
  have HR := Lib.hid hr
  have HBr := Lib.hid (show 0 < len → ∀ b off, a = some ⟨b, off, none⟩ → b < B from fun lp b off e => by
    obtain ⟨_, _, _, h⟩ := hr
    rcases h with h | ⟨b', off', e', h1, _⟩
    · omega
    · rw [e] at e'; injection e' with e'; injection e' with e'; omega)
  have HF := Lib.hid hF
  have HT := Lib.hid hT
  have HD := Lib.hid hd
  have HM := Lib.hid hm
  have HW := Lib.hid hwd
  have HN := Lib.hid hn
  have d1 : decide ((n : Int) < 1) = false := decide_eq_false (by omega)
  have d2 : decide ((100 : Int) < (n : Int)) = false := decide_eq_false (by omega)
  have SZ := Lib.hid (show ∀ W, Below B w W → B ≤ W.heap.size from fun W h => by have := h.size; rw [HB.out] at this; exact this)
  clear hF hT hd hwd hr hm
  go_enter Try.func5, Try.ntmps5
  go_wp2_with fail
  refine calls_letter ?_
  intro W0 hW0
  obtain ⟨q1, q2, q3⟩ := five_new HB.out hW0.out
  have V0 := Lib.hid q1
  have B0 := Lib.hid (show Below B w W0 by rw [← HB.out]; exact q2)
  have S0 := Lib.hid q3
  clear hW0 q1 q2 q3 hB
  refine (awake_any W0).mono ?_
  rintro e w1 ⟨rfl, hb⟩
  have V1 := Lib.hid (V0.out.keep hb)
  have B1 := Lib.hid (B0.out.trans (hb.mono (SZ.out _ B0.out)))
  have S1 := Lib.hid (show B + 5 ≤ w1.heap.size by have := hb.size; rw [S0.out] at this; exact this)
  clear hb V0 B0 S0
  go_wp2_with fail
  refine (New_holdE (fun j => j < B + 5) w1 (fun j hj => Nat.lt_of_lt_of_le hj S1.out)).mono ?_
  rintro e w2 ⟨⟨b, rfl, hh⟩, hb⟩
  have V2 := Lib.hid (V1.out.keep hb)
  have B2 := Lib.hid (B1.out.trans (hb.mono (SZ.out _ B1.out)))
  have P2 := Lib.hid hh
  clear hb hh V1 B1 S1
  have x0 := V2.out.f.at 0 rfl
  go_wp2_with fail
  refine (Write_holdE _ b _ 0 F w2 ⟨by omega, by omega⟩ HF.out P2.out).mono ?_
  rintro e w3 ⟨rfl, h1, o1⟩
  have P3 := Lib.hid h1
  have V3 := Lib.hid (V2.out.only o1 (fun j h1 h2 e => e h2))
  have B3 := Lib.hid (below_onlyE B2.out o1 (by rw [HB.out]; exact Nat.le_refl _) (fun j hj => by show j < B + 5; omega))
  clear h1 o1 P2 V2 B2 x0
  have x1 := V3.out.t.at 0 rfl
  go_wp2_with fail
  refine (Write_holdE _ b _ 1 T w3 ⟨by omega, by omega⟩ HT.out P3.out).mono ?_
  rintro e w4 ⟨rfl, h1, o1⟩
  have P4 := Lib.hid h1
  have V4 := Lib.hid (V3.out.only o1 (fun j h1 h2 e => e h2))
  have B4 := Lib.hid (below_onlyE B3.out o1 (by rw [HB.out]; exact Nat.le_refl _) (fun j hj => by show j < B + 5; omega))
  clear h1 o1 P3 V3 B3 x1
  go_wp2_with fail
  refine (Write_holdE _ b _ 2 (n : Int) w4 ⟨by omega, by omega⟩ ⟨by omega, by omega⟩ P4.out).mono ?_
  rintro e w5 ⟨rfl, h1, o1⟩
  have P5 := Lib.hid h1
  have V5 := Lib.hid (V4.out.only o1 (fun j h1 h2 e => e h2))
  have B5 := Lib.hid (below_onlyE B4.out o1 (by rw [HB.out]; exact Nat.le_refl _) (fun j hj => by show j < B + 5; omega))
  clear h1 o1 P4 V4 B4
  go_wp2_with fail
  refine (Write_holdE _ b _ 3 257 w5 ⟨by omega, by omega⟩ ⟨by omega, by omega⟩ P5.out).mono ?_
  rintro e w6 ⟨rfl, h1, o1⟩
  have P6 := Lib.hid h1
  have V6 := Lib.hid (V5.out.only o1 (fun j h1 h2 e => e h2))
  have B6 := Lib.hid (below_onlyE B5.out o1 (by rw [HB.out]; exact Nat.le_refl _) (fun j hj => by show j < B + 5; omega))
  clear h1 o1 P5 V5 B5
  rw [begin_mv (valV l) HF.out HT.out HN.out.1] at P6
  obtain ⟨gn, hgn⟩ : ∃ g, w6.heap.size = g := ⟨_, rfl⟩
  have HGN := Lib.hid hgn
  have S6 := Lib.hid (show B + 5 ≤ gn from by
    have h := P6.out
    obtain ⟨O, _, _, h3⟩ := h
    have := h3 (B + 4) (by show B + 4 < B + 5; omega)
    omega)
  have al := fun o o' o2 => (((V6.out.d.alloc o).alloc o').alloc o2).at 0 rfl
  have g1 : decide (0 ≤ (d : Int)) = true := decide_eq_true (by omega)
  have g2 : decide ((d : Int) < 2 * (n : Int)) = true := decide_eq_true (by have := HM.out; omega)
  obtain ⟨m, hm⟩ : ∃ m : Nat, (d + 1) = m := ⟨_, rfl⟩
  have HMM := Lib.hid hm
  have wd : wrap64 ((d : Int) + 1) = (m : Int) := (IntWalk.wrap64_in _ (by have := HM.out; have := HN.out; omega)).trans (by omega)
  have HQE := Lib.hid (show wrap64 ((d : Int) + 1) = (m : Int) from wd)
  clear hm wd
  go_wp2_with fail
  refine code_letter ?_
  intro X hX
  obtain ⟨⟨q1, q2, q3⟩, q4, q5⟩ := three_new HGN.out hX.out
  have HC := Lib.hid (show Chain gn (gn + 1) (B + 4) B (gn + 2) (B + 2) (B + 1) (B + 3) from by unfold Chain; have := S6.out; omega)
  have C0 := Lib.hid (show Cap X gn (gn + 1) (B + 4) B (gn + 2) (B + 2) (B + 1) (B + 3) ((0 : Nat) : Int) world F T 0 (d : Int) (.slice a len cap) from ⟨q1, q2, (V6.out.keep q4).w, (V6.out.keep q4).f, q3, (V6.out.keep q4).v, (V6.out.keep q4).t, (V6.out.keep q4).d⟩)
  obtain ⟨K, hK⟩ : ∃ K : Nat → Prop, K = fun j => j < B + 5 ∨ (j = gn ∨ j = gn + 1 ∨ j = gn + 2) := ⟨_, rfl⟩
  have P0 := Lib.hid (show HoldE K X b (atE F T n (valV l) (d : Int) 0) from by rw [hK]; exact P6.out.also q4 _ (fun j hj => by rw [HGN.out, q5]; omega))
  have BX := Lib.hid (show Below B w X from B6.out.trans (q4.mono (SZ.out _ B6.out)))
  have HK := Lib.hid (show (∀ j, j = gn ∨ j = gn + 1 ∨ j = B + 4 ∨ j = B ∨ j = gn + 2 ∨ j = B + 2 ∨ j = B + 1 ∨ j = B + 3 → K j) ∧ ∀ j, j < B → K j from ⟨fun j hj => by rw [hK]; show j < B + 5 ∨ _; omega, fun j hj => by rw [hK]; show j < B + 5 ∨ _; omega⟩)
  clear hX q1 q2 q3 q4 q5 hK V6 B6 P6 al hgn d1 d2
  go_loopw [19] (fun iv wr => ∃ i : Nat, i ≤ m ∧ iv = .int .i64 i ∧ HoldE K wr b (atE F T n (valV l) (d : Int) i) ∧ Cap wr gn (gn + 1) (B + 4) B (gn + 2) (B + 2) (B + 1) (B + 3) i world F T (heldV (valV l) i) (d : Int) (.slice a len cap) ∧ Below B w wr) (fun iv _ => m - (intOf iv).toNat)
  case atStart => exact ⟨0, by omega, rfl, P0.out, C0.out, BX.out⟩
  case round =>
  clear P0 C0 BX
  obtain ⟨i, hi, rfl, hp, hcap, hbl⟩ := hrel
  have P := Lib.hid hp
  have C := Lib.hid hcap
  have BL := Lib.hid hbl
  clear hp hcap hbl
  have xw := C.out.cw.at 0 rfl
  by_cases hlt : i < m
  · have u1 : decide ((i : Int) < wrap64 ((d : Int) + 1)) = true := decide_eq_true (by have := HQE.out; omega)
    have HI := Lib.hid (show i < 2 * n by have := HM.out; have := HMM.out; omega)
    have hmv : atE F T n (valV l) (d : Int) i = mvE F T n (valV l) i := at_mv (fun j hj e => by have := HMM.out; omega)
    have PM := Lib.hid (show HoldE K wr b (mvE F T n (valV l) i) by rw [← hmv]; exact P.out)
    have HH := Lib.hid (show i % 2 = 1 → heldV (valV l) i = valV l (i / 2) from fun h => by
      cases i with
      | zero => omega
      | succ j => show valV l (j / 2) = _; rw [show (j + 1) / 2 = j / 2 by omega])
    have WI := Lib.hid (show wrap64 ((i : Int) + 1) = ((i + 1 : Nat) : Int) from (IntWalk.wrap64_in _ (by have := HI.out; have := HN.out; omega)).trans (by omega))
    have HL := Lib.hid hlt
    clear hmv hlt hi
    go_wp2_with fail
    refine (Step_mv K B b gn (gn + 1) (B + 4) B (gn + 2) (B + 2) (B + 1) (B + 3) i n len cap world F T _ (d : Int) a l wr HN.out.2 HI.out HF.out HT.out HW.out HC.out C.out (HR.out.only (below_only' BL.out) (fun lp b off e k => by have := HBr.out lp b off e; have : B ≤ b := k; omega)) HBr.out PM.out HK.out.1 HK.out.2 (Nat.le_refl _) (SZ.out _ BL.out) HH.out (VB.out _)).mono ?_
    rintro e w' ⟨rfl, h1, h2, h3⟩
    have P2 := Lib.hid (show HoldE K w' b (atE F T n (valV l) (d : Int) (i + 1)) from h1)
    have C2 := Lib.hid (show Cap w' gn (gn + 1) (B + 4) B (gn + 2) (B + 2) (B + 1) (B + 3) ((i + 1 : Nat) : Int) world F T (heldV (valV l) (i + 1)) (d : Int) (.slice a len cap) from h2.as (by omega) rfl)
    have B2 := Lib.hid (BL.out.trans h3)
    clear h1 h2 h3 xw u1
    go_wp2_with fail
    have hl := HL.out
    exact ⟨⟨i + 1, by omega, congrArg (Value.int .i64) WI.out, P2.out, C2.out, B2.out⟩, meas_mv hl WI.out⟩
  · have u1 : decide ((i : Int) < wrap64 ((d : Int) + 1)) = false := decide_eq_false (by have := HQE.out; omega)
    have e0 : i = m := by omega
    subst e0
    have PF := Lib.hid (show HoldE K wr b ⟨(F + 4 * (((d : Int) + 1) / 2)) % 4294967296, (T + 4 * ((d : Int) / 2)) % 4294967296, (n : Int) - (d : Int) / 2, 0, false, false, true, false, true⟩ by rw [← fin_den (val := valV l) HM.out, HMM.out]; exact P.out)
    have CF := Lib.hid C.out
    clear P C hlt hi
    go_wp2_with fail
    refine (Step_holdE K b _ world _ wr HW.out PF.out (.inr ⟨rfl, _, _, _, rfl⟩)).mono ?_
    rintro e w7 ⟨rfl, hb⟩
    have P7 := Lib.hid (PF.out.keep hb)
    have C7 := Lib.hid (CF.out.keep hb)
    have B7 := Lib.hid (BL.out.trans (hb.mono (SZ.out _ BL.out)))
    clear hb PF CF BL xw
    have xr := C7.out.cr.at 0 rfl
    have xn := C7.out.cn.at 0 rfl
    have nn : ((i : Int) != wrap64 ((d : Int) + 1)) = false := by rw [HQE.out]; simp
    go_wp2_with fail
    refine (Line_holdE K b _ w7 P7.out).mono ?_
    rintro e w8 ⟨rfl, hb⟩
    have P8 := Lib.hid (P7.out.keep hb)
    have C8 := Lib.hid (C7.out.keep hb)
    have B8 := Lib.hid (B7.out.trans (hb.mono (SZ.out _ B7.out)))
    clear hb P7 C7 B7 xr xn u1 nn
    simp only [lineE]
    go_wp2_with fail
    refine (State_holdE K b _ w8 P8.out).mono ?_
    rintro e w9 ⟨rfl, hb⟩
    have C9 := Lib.hid (C8.out.keep hb)
    have B9 := Lib.hid (B8.out.trans (hb.mono (SZ.out _ B8.out)))
    clear hb P8 C8 B8
    have ad := fun o => (C9.out.cd.alloc o).at 0 rfl
    have af := fun o => (C9.out.cf.alloc o).at 0 rfl
    have at' := fun o => (C9.out.ct.alloc o).at 0 rfl
    obtain ⟨g, hg⟩ : ∃ g, w9.heap.size = g := ⟨_, rfl⟩
    have HG := Lib.hid hg
    have ee : (wrap64 (wrap64 ((d : Int) + 1) - 1) == (d : Int)) = true := by rw [HQE.out, IntWalk.wrap64_in _ (by have := HMM.out; have := HM.out; have := HN.out; omega)]; simp; have := HMM.out; omega
    have hd2 : wrap64 ((d : Int) / 2) = (d : Int) / 2 := IntWalk.wrap64_in _ (by have := HM.out; have := HN.out; omega)
    have q1 : wrap64 ((n : Int) - (d : Int) / 2) = wrap64 ((n : Int) - wrap64 ((d : Int) / 2)) := by rw [hd2]
    have q2 : (T + 4 * ((d : Int) / 2)) % 4294967296 = (T + 4 * (wrap64 ((d : Int) / 2) % 4294967296)) % 4294967296 := by rw [hd2]; have := HM.out; have := HN.out; omega
    have Q := Lib.hid (And.intro q1 q2)
    have HD2 := Lib.hid hd2
    clear q1 q2 hd2
    go_wp2_with fail
    all_goals first
      | exact absurd Q.out.1 (by assumption)
      | exact absurd Q.out.2 (by assumption)
      | skip
    have q3 : ((F + 4 * (((d : Int) + 1) / 2)) % 4294967296 == (F + 4 * (wrap64 ((wrap64 ((d : Int) + 1)).tdiv 2) % 4294967296)) % 4294967296) = true := by
      have e1 := HMM.out
      have e2 := HM.out
      have e3 := HN.out
      rw [HQE.out, Int.tdiv_eq_ediv_of_nonneg (by omega), IntWalk.wrap64_in _ (by omega)]
      simp
      omega
    go_ret
    exact ⟨congrArg (fun x => Ending.returned (Value.bool x)) q3, below_al (by rw [HB.out]; exact B9.out) _⟩
set_option maxRecDepth 100000 in
set_option maxHeartbeats 8000000 in
theorem moves_b (F T den world : Int) (n : Nat) (a : Option Addr) (len cap : Nat) (l : List Int) (w : World) (hn : 1 ≤ n ∧ n ≤ 100) (hF : 0 ≤ F ∧ F < 4294967296) (hT : 0 ≤ T ∧ T < 4294967296) (hd : I64 den) (hin : ¬ (0 ≤ den ∧ den < 2 * (n : Int))) (g1 : decide (0 ≤ den) = false) (hwd : I64 world) (hr : Row .u32 w a len l) :
    Calls Try.prog 5 #[.int .u32 F, .int .u32 T, .int .i64 n, .slice a len cap, .int .i64 den, .int .i64 world] w fun e w' => e = .returned (.bool true) ∧ Below w.heap.size w w' := by
  have hmf : ∀ w f r c, (Instr.makeFunc (.func f) r c).run Try.prog w = .ok (.func (.func f) r c) w := fun w f r c => rfl
  obtain ⟨B, hB⟩ : ∃ B, w.heap.size = B := ⟨_, rfl⟩
  have HB := Lib.hid hB
  have VB := Lib.hid (val_b (k := .u32) hr)
  have HR := Lib.hid hr
  have HBr := Lib.hid (show 0 < len → ∀ b off, a = some ⟨b, off, none⟩ → b < B from fun lp b off e => by
    obtain ⟨_, _, _, h⟩ := hr
    rcases h with h | ⟨b', off', e', h1, _⟩
    · omega
    · rw [e] at e'; injection e' with e'; injection e' with e'; omega)
  have HF := Lib.hid hF
  have HT := Lib.hid hT
  have HD := Lib.hid hd
  have HM := Lib.hid (show ∀ j : Nat, j < 2 * n → ¬ (j : Int) = den from fun j hj e => hin (by omega))
  have HM2 := Lib.hid hin
  have HW := Lib.hid hwd
  have HN := Lib.hid hn
  have d1 : decide ((n : Int) < 1) = false := decide_eq_false (by omega)
  have d2 : decide ((100 : Int) < (n : Int)) = false := decide_eq_false (by omega)
  have SZ := Lib.hid (show ∀ W, Below B w W → B ≤ W.heap.size from fun W h => by have := h.size; rw [HB.out] at this; exact this)
  clear hF hT hd hwd hr hin
  go_enter Try.func5, Try.ntmps5
  go_wp2_with fail
  refine calls_letter ?_
  intro W0 hW0
  obtain ⟨q1, q2, q3⟩ := five_new HB.out hW0.out
  have V0 := Lib.hid q1
  have B0 := Lib.hid (show Below B w W0 by rw [← HB.out]; exact q2)
  have S0 := Lib.hid q3
  clear hW0 q1 q2 q3 hB
  refine (awake_any W0).mono ?_
  rintro e w1 ⟨rfl, hb⟩
  have V1 := Lib.hid (V0.out.keep hb)
  have B1 := Lib.hid (B0.out.trans (hb.mono (SZ.out _ B0.out)))
  have S1 := Lib.hid (show B + 5 ≤ w1.heap.size by have := hb.size; rw [S0.out] at this; exact this)
  clear hb V0 B0 S0
  go_wp2_with fail
  refine (New_holdE (fun j => j < B + 5) w1 (fun j hj => Nat.lt_of_lt_of_le hj S1.out)).mono ?_
  rintro e w2 ⟨⟨b, rfl, hh⟩, hb⟩
  have V2 := Lib.hid (V1.out.keep hb)
  have B2 := Lib.hid (B1.out.trans (hb.mono (SZ.out _ B1.out)))
  have P2 := Lib.hid hh
  clear hb hh V1 B1 S1
  have x0 := V2.out.f.at 0 rfl
  go_wp2_with fail
  refine (Write_holdE _ b _ 0 F w2 ⟨by omega, by omega⟩ HF.out P2.out).mono ?_
  rintro e w3 ⟨rfl, h1, o1⟩
  have P3 := Lib.hid h1
  have V3 := Lib.hid (V2.out.only o1 (fun j h1 h2 e => e h2))
  have B3 := Lib.hid (below_onlyE B2.out o1 (by rw [HB.out]; exact Nat.le_refl _) (fun j hj => by show j < B + 5; omega))
  clear h1 o1 P2 V2 B2 x0
  have x1 := V3.out.t.at 0 rfl
  go_wp2_with fail
  refine (Write_holdE _ b _ 1 T w3 ⟨by omega, by omega⟩ HT.out P3.out).mono ?_
  rintro e w4 ⟨rfl, h1, o1⟩
  have P4 := Lib.hid h1
  have V4 := Lib.hid (V3.out.only o1 (fun j h1 h2 e => e h2))
  have B4 := Lib.hid (below_onlyE B3.out o1 (by rw [HB.out]; exact Nat.le_refl _) (fun j hj => by show j < B + 5; omega))
  clear h1 o1 P3 V3 B3 x1
  go_wp2_with fail
  refine (Write_holdE _ b _ 2 (n : Int) w4 ⟨by omega, by omega⟩ ⟨by omega, by omega⟩ P4.out).mono ?_
  rintro e w5 ⟨rfl, h1, o1⟩
  have P5 := Lib.hid h1
  have V5 := Lib.hid (V4.out.only o1 (fun j h1 h2 e => e h2))
  have B5 := Lib.hid (below_onlyE B4.out o1 (by rw [HB.out]; exact Nat.le_refl _) (fun j hj => by show j < B + 5; omega))
  clear h1 o1 P4 V4 B4
  go_wp2_with fail
  refine (Write_holdE _ b _ 3 257 w5 ⟨by omega, by omega⟩ ⟨by omega, by omega⟩ P5.out).mono ?_
  rintro e w6 ⟨rfl, h1, o1⟩
  have P6 := Lib.hid h1
  have V6 := Lib.hid (V5.out.only o1 (fun j h1 h2 e => e h2))
  have B6 := Lib.hid (below_onlyE B5.out o1 (by rw [HB.out]; exact Nat.le_refl _) (fun j hj => by show j < B + 5; omega))
  clear h1 o1 P5 V5 B5
  rw [begin_mv (valV l) HF.out HT.out HN.out.1] at P6
  obtain ⟨gn, hgn⟩ : ∃ g, w6.heap.size = g := ⟨_, rfl⟩
  have HGN := Lib.hid hgn
  have S6 := Lib.hid (show B + 5 ≤ gn from by
    have h := P6.out
    obtain ⟨O, _, _, h3⟩ := h
    have := h3 (B + 4) (by show B + 4 < B + 5; omega)
    omega)
  have al := fun o o' o2 => (((V6.out.d.alloc o).alloc o').alloc o2).at 0 rfl
  obtain ⟨m, hm⟩ : ∃ m : Nat, (2 * n) = m := ⟨_, rfl⟩
  have HMM := Lib.hid hm
  have wd : wrap64 (2 * (n : Int)) = (m : Int) := (IntWalk.wrap64_in _ (by have := HN.out; omega)).trans (by omega)
  have HQE := Lib.hid (show 2 * (n : Int) = (m : Int) from by omega)
  clear hm wd
  go_wp2_with fail
  refine code_letter ?_
  intro X hX
  obtain ⟨⟨q1, q2, q3⟩, q4, q5⟩ := three_new HGN.out hX.out
  have HC := Lib.hid (show Chain gn (gn + 1) (B + 4) B (gn + 2) (B + 2) (B + 1) (B + 3) from by unfold Chain; have := S6.out; omega)
  have C0 := Lib.hid (show Cap X gn (gn + 1) (B + 4) B (gn + 2) (B + 2) (B + 1) (B + 3) ((0 : Nat) : Int) world F T 0 den (.slice a len cap) from ⟨q1, q2, (V6.out.keep q4).w, (V6.out.keep q4).f, q3, (V6.out.keep q4).v, (V6.out.keep q4).t, (V6.out.keep q4).d⟩)
  obtain ⟨K, hK⟩ : ∃ K : Nat → Prop, K = fun j => j < B + 5 ∨ (j = gn ∨ j = gn + 1 ∨ j = gn + 2) := ⟨_, rfl⟩
  have P0 := Lib.hid (show HoldE K X b (atE F T n (valV l) den 0) from by rw [hK]; exact P6.out.also q4 _ (fun j hj => by rw [HGN.out, q5]; omega))
  have BX := Lib.hid (show Below B w X from B6.out.trans (q4.mono (SZ.out _ B6.out)))
  have HK := Lib.hid (show (∀ j, j = gn ∨ j = gn + 1 ∨ j = B + 4 ∨ j = B ∨ j = gn + 2 ∨ j = B + 2 ∨ j = B + 1 ∨ j = B + 3 → K j) ∧ ∀ j, j < B → K j from ⟨fun j hj => by rw [hK]; show j < B + 5 ∨ _; omega, fun j hj => by rw [hK]; show j < B + 5 ∨ _; omega⟩)
  clear hX q1 q2 q3 q4 q5 hK V6 B6 P6 al hgn d1 d2
  go_loopw [19] (fun iv wr => ∃ i : Nat, i ≤ m ∧ iv = .int .i64 i ∧ HoldE K wr b (atE F T n (valV l) den i) ∧ Cap wr gn (gn + 1) (B + 4) B (gn + 2) (B + 2) (B + 1) (B + 3) i world F T (heldV (valV l) i) den (.slice a len cap) ∧ Below B w wr) (fun iv _ => m - (intOf iv).toNat)
  case atStart => exact ⟨0, by omega, rfl, P0.out, C0.out, BX.out⟩
  case round =>
  clear P0 C0 BX
  obtain ⟨i, hi, rfl, hp, hcap, hbl⟩ := hrel
  have P := Lib.hid hp
  have C := Lib.hid hcap
  have BL := Lib.hid hbl
  clear hp hcap hbl
  have xw := C.out.cw.at 0 rfl
  by_cases hlt : i < m
  · have u1 : decide ((i : Int) < 2 * (n : Int)) = true := decide_eq_true (by have := HQE.out; omega)
    have HI := Lib.hid (show i < 2 * n by have := HM.out; have := HMM.out; omega)
    have hmv : atE F T n (valV l) den i = mvE F T n (valV l) i := at_mv (fun j hj e => by have := HMM.out; exact HM.out j (by omega) e)
    have PM := Lib.hid (show HoldE K wr b (mvE F T n (valV l) i) by rw [← hmv]; exact P.out)
    have HH := Lib.hid (show i % 2 = 1 → heldV (valV l) i = valV l (i / 2) from fun h => by
      cases i with
      | zero => omega
      | succ j => show valV l (j / 2) = _; rw [show (j + 1) / 2 = j / 2 by omega])
    have WI := Lib.hid (show wrap64 ((i : Int) + 1) = ((i + 1 : Nat) : Int) from (IntWalk.wrap64_in _ (by have := HI.out; have := HN.out; omega)).trans (by omega))
    have HL := Lib.hid hlt
    clear hmv hlt hi
    go_wp2_with fail
    refine (Step_mv K B b gn (gn + 1) (B + 4) B (gn + 2) (B + 2) (B + 1) (B + 3) i n len cap world F T _ den a l wr HN.out.2 HI.out HF.out HT.out HW.out HC.out C.out (HR.out.only (below_only' BL.out) (fun lp b off e k => by have := HBr.out lp b off e; have : B ≤ b := k; omega)) HBr.out PM.out HK.out.1 HK.out.2 (Nat.le_refl _) (SZ.out _ BL.out) HH.out (VB.out _)).mono ?_
    rintro e w' ⟨rfl, h1, h2, h3⟩
    have P2 := Lib.hid (show HoldE K w' b (atE F T n (valV l) den (i + 1)) from h1)
    have C2 := Lib.hid (show Cap w' gn (gn + 1) (B + 4) B (gn + 2) (B + 2) (B + 1) (B + 3) ((i + 1 : Nat) : Int) world F T (heldV (valV l) (i + 1)) den (.slice a len cap) from h2.as (by omega) rfl)
    have B2 := Lib.hid (BL.out.trans h3)
    clear h1 h2 h3 xw u1
    go_wp2_with fail
    have hl := HL.out
    exact ⟨⟨i + 1, by omega, congrArg (Value.int .i64) WI.out, P2.out, C2.out, B2.out⟩, meas_mv hl WI.out⟩
  · have u1 : decide ((i : Int) < 2 * (n : Int)) = false := decide_eq_false (by have := HQE.out; omega)
    have e0 : i = m := by omega
    subst e0
    have PF := Lib.hid (show HoldE K wr b ⟨(F + 4 * (n : Int)) % 4294967296, (T + 4 * (n : Int)) % 4294967296, 0, 0, false, false, false, true, true⟩ by rw [← fin_all (val := valV l) HM.out, HMM.out]; exact P.out)
    have CF := Lib.hid C.out
    clear P C hlt hi
    go_wp2_with fail
    refine (Step_holdE K b _ world _ wr HW.out PF.out (.inr ⟨rfl, _, _, _, rfl⟩)).mono ?_
    rintro e w7 ⟨rfl, hb⟩
    have P7 := Lib.hid (PF.out.keep hb)
    have C7 := Lib.hid (CF.out.keep hb)
    have B7 := Lib.hid (BL.out.trans (hb.mono (SZ.out _ BL.out)))
    clear hb PF CF BL xw
    have xr := C7.out.cr.at 0 rfl
    have xn := C7.out.cn.at 0 rfl
    have nn : ((i : Int) != 2 * (n : Int)) = false := by rw [HQE.out]; simp
    go_wp2_with fail
    refine (Line_holdE K b _ w7 P7.out).mono ?_
    rintro e w8 ⟨rfl, hb⟩
    have P8 := Lib.hid (P7.out.keep hb)
    have C8 := Lib.hid (C7.out.keep hb)
    have B8 := Lib.hid (B7.out.trans (hb.mono (SZ.out _ B7.out)))
    clear hb P7 C7 B7 xr xn u1 nn
    simp only [lineE]
    go_wp2_with fail
    refine (State_holdE K b _ w8 P8.out).mono ?_
    rintro e w9 ⟨rfl, hb⟩
    have C9 := Lib.hid (C8.out.keep hb)
    have B9 := Lib.hid (B8.out.trans (hb.mono (SZ.out _ B8.out)))
    clear hb P8 C8 B8
    have ad := fun o => (C9.out.cd.alloc o).at 0 rfl
    have af := fun o => (C9.out.cf.alloc o).at 0 rfl
    have at' := fun o => (C9.out.ct.alloc o).at 0 rfl
    obtain ⟨g, hg⟩ : ∃ g, w9.heap.size = g := ⟨_, rfl⟩
    have HG := Lib.hid hg
    have ee : (2 * (n : Int) - 1 == den) = false := by have := HM.out (2 * n - 1) (by have := HN.out; omega); have := HN.out; simp; omega
    go_wp2_with fail
    go_ret
    exact ⟨rfl, below_al (by rw [HB.out]; exact B9.out) _⟩
set_option maxRecDepth 100000 in
set_option maxHeartbeats 8000000 in
theorem moves_c (F T den world : Int) (n : Nat) (a : Option Addr) (len cap : Nat) (l : List Int) (w : World) (hn : 1 ≤ n ∧ n ≤ 100) (hF : 0 ≤ F ∧ F < 4294967296) (hT : 0 ≤ T ∧ T < 4294967296) (hd : I64 den) (hin : ¬ (0 ≤ den ∧ den < 2 * (n : Int))) (g1 : decide (0 ≤ den) = true) (g2 : decide (den < 2 * (n : Int)) = false) (hwd : I64 world) (hr : Row .u32 w a len l) :
    Calls Try.prog 5 #[.int .u32 F, .int .u32 T, .int .i64 n, .slice a len cap, .int .i64 den, .int .i64 world] w fun e w' => e = .returned (.bool true) ∧ Below w.heap.size w w' := by
  have hmf : ∀ w f r c, (Instr.makeFunc (.func f) r c).run Try.prog w = .ok (.func (.func f) r c) w := fun w f r c => rfl
  obtain ⟨B, hB⟩ : ∃ B, w.heap.size = B := ⟨_, rfl⟩
  have HB := Lib.hid hB
  have VB := Lib.hid (val_b (k := .u32) hr)
  have HR := Lib.hid hr
  have HBr := Lib.hid (show 0 < len → ∀ b off, a = some ⟨b, off, none⟩ → b < B from fun lp b off e => by
    obtain ⟨_, _, _, h⟩ := hr
    rcases h with h | ⟨b', off', e', h1, _⟩
    · omega
    · rw [e] at e'; injection e' with e'; injection e' with e'; omega)
  have HF := Lib.hid hF
  have HT := Lib.hid hT
  have HD := Lib.hid hd
  have HM := Lib.hid (show ∀ j : Nat, j < 2 * n → ¬ (j : Int) = den from fun j hj e => hin (by omega))
  have HM2 := Lib.hid hin
  have HW := Lib.hid hwd
  have HN := Lib.hid hn
  have d1 : decide ((n : Int) < 1) = false := decide_eq_false (by omega)
  have d2 : decide ((100 : Int) < (n : Int)) = false := decide_eq_false (by omega)
  have SZ := Lib.hid (show ∀ W, Below B w W → B ≤ W.heap.size from fun W h => by have := h.size; rw [HB.out] at this; exact this)
  clear hF hT hd hwd hr hin
  go_enter Try.func5, Try.ntmps5
  go_wp2_with fail
  refine calls_letter ?_
  intro W0 hW0
  obtain ⟨q1, q2, q3⟩ := five_new HB.out hW0.out
  have V0 := Lib.hid q1
  have B0 := Lib.hid (show Below B w W0 by rw [← HB.out]; exact q2)
  have S0 := Lib.hid q3
  clear hW0 q1 q2 q3 hB
  refine (awake_any W0).mono ?_
  rintro e w1 ⟨rfl, hb⟩
  have V1 := Lib.hid (V0.out.keep hb)
  have B1 := Lib.hid (B0.out.trans (hb.mono (SZ.out _ B0.out)))
  have S1 := Lib.hid (show B + 5 ≤ w1.heap.size by have := hb.size; rw [S0.out] at this; exact this)
  clear hb V0 B0 S0
  go_wp2_with fail
  refine (New_holdE (fun j => j < B + 5) w1 (fun j hj => Nat.lt_of_lt_of_le hj S1.out)).mono ?_
  rintro e w2 ⟨⟨b, rfl, hh⟩, hb⟩
  have V2 := Lib.hid (V1.out.keep hb)
  have B2 := Lib.hid (B1.out.trans (hb.mono (SZ.out _ B1.out)))
  have P2 := Lib.hid hh
  clear hb hh V1 B1 S1
  have x0 := V2.out.f.at 0 rfl
  go_wp2_with fail
  refine (Write_holdE _ b _ 0 F w2 ⟨by omega, by omega⟩ HF.out P2.out).mono ?_
  rintro e w3 ⟨rfl, h1, o1⟩
  have P3 := Lib.hid h1
  have V3 := Lib.hid (V2.out.only o1 (fun j h1 h2 e => e h2))
  have B3 := Lib.hid (below_onlyE B2.out o1 (by rw [HB.out]; exact Nat.le_refl _) (fun j hj => by show j < B + 5; omega))
  clear h1 o1 P2 V2 B2 x0
  have x1 := V3.out.t.at 0 rfl
  go_wp2_with fail
  refine (Write_holdE _ b _ 1 T w3 ⟨by omega, by omega⟩ HT.out P3.out).mono ?_
  rintro e w4 ⟨rfl, h1, o1⟩
  have P4 := Lib.hid h1
  have V4 := Lib.hid (V3.out.only o1 (fun j h1 h2 e => e h2))
  have B4 := Lib.hid (below_onlyE B3.out o1 (by rw [HB.out]; exact Nat.le_refl _) (fun j hj => by show j < B + 5; omega))
  clear h1 o1 P3 V3 B3 x1
  go_wp2_with fail
  refine (Write_holdE _ b _ 2 (n : Int) w4 ⟨by omega, by omega⟩ ⟨by omega, by omega⟩ P4.out).mono ?_
  rintro e w5 ⟨rfl, h1, o1⟩
  have P5 := Lib.hid h1
  have V5 := Lib.hid (V4.out.only o1 (fun j h1 h2 e => e h2))
  have B5 := Lib.hid (below_onlyE B4.out o1 (by rw [HB.out]; exact Nat.le_refl _) (fun j hj => by show j < B + 5; omega))
  clear h1 o1 P4 V4 B4
  go_wp2_with fail
  refine (Write_holdE _ b _ 3 257 w5 ⟨by omega, by omega⟩ ⟨by omega, by omega⟩ P5.out).mono ?_
  rintro e w6 ⟨rfl, h1, o1⟩
  have P6 := Lib.hid h1
  have V6 := Lib.hid (V5.out.only o1 (fun j h1 h2 e => e h2))
  have B6 := Lib.hid (below_onlyE B5.out o1 (by rw [HB.out]; exact Nat.le_refl _) (fun j hj => by show j < B + 5; omega))
  clear h1 o1 P5 V5 B5
  rw [begin_mv (valV l) HF.out HT.out HN.out.1] at P6
  obtain ⟨gn, hgn⟩ : ∃ g, w6.heap.size = g := ⟨_, rfl⟩
  have HGN := Lib.hid hgn
  have S6 := Lib.hid (show B + 5 ≤ gn from by
    have h := P6.out
    obtain ⟨O, _, _, h3⟩ := h
    have := h3 (B + 4) (by show B + 4 < B + 5; omega)
    omega)
  have al := fun o o' o2 => (((V6.out.d.alloc o).alloc o').alloc o2).at 0 rfl
  obtain ⟨m, hm⟩ : ∃ m : Nat, (2 * n) = m := ⟨_, rfl⟩
  have HMM := Lib.hid hm
  have wd : wrap64 (2 * (n : Int)) = (m : Int) := (IntWalk.wrap64_in _ (by have := HN.out; omega)).trans (by omega)
  have HQE := Lib.hid (show 2 * (n : Int) = (m : Int) from by omega)
  clear hm wd
  go_wp2_with fail
  refine code_letter ?_
  intro X hX
  obtain ⟨⟨q1, q2, q3⟩, q4, q5⟩ := three_new HGN.out hX.out
  have HC := Lib.hid (show Chain gn (gn + 1) (B + 4) B (gn + 2) (B + 2) (B + 1) (B + 3) from by unfold Chain; have := S6.out; omega)
  have C0 := Lib.hid (show Cap X gn (gn + 1) (B + 4) B (gn + 2) (B + 2) (B + 1) (B + 3) ((0 : Nat) : Int) world F T 0 den (.slice a len cap) from ⟨q1, q2, (V6.out.keep q4).w, (V6.out.keep q4).f, q3, (V6.out.keep q4).v, (V6.out.keep q4).t, (V6.out.keep q4).d⟩)
  obtain ⟨K, hK⟩ : ∃ K : Nat → Prop, K = fun j => j < B + 5 ∨ (j = gn ∨ j = gn + 1 ∨ j = gn + 2) := ⟨_, rfl⟩
  have P0 := Lib.hid (show HoldE K X b (atE F T n (valV l) den 0) from by rw [hK]; exact P6.out.also q4 _ (fun j hj => by rw [HGN.out, q5]; omega))
  have BX := Lib.hid (show Below B w X from B6.out.trans (q4.mono (SZ.out _ B6.out)))
  have HK := Lib.hid (show (∀ j, j = gn ∨ j = gn + 1 ∨ j = B + 4 ∨ j = B ∨ j = gn + 2 ∨ j = B + 2 ∨ j = B + 1 ∨ j = B + 3 → K j) ∧ ∀ j, j < B → K j from ⟨fun j hj => by rw [hK]; show j < B + 5 ∨ _; omega, fun j hj => by rw [hK]; show j < B + 5 ∨ _; omega⟩)
  clear hX q1 q2 q3 q4 q5 hK V6 B6 P6 al hgn d1 d2
  go_loopw [19] (fun iv wr => ∃ i : Nat, i ≤ m ∧ iv = .int .i64 i ∧ HoldE K wr b (atE F T n (valV l) den i) ∧ Cap wr gn (gn + 1) (B + 4) B (gn + 2) (B + 2) (B + 1) (B + 3) i world F T (heldV (valV l) i) den (.slice a len cap) ∧ Below B w wr) (fun iv _ => m - (intOf iv).toNat)
  case atStart => exact ⟨0, by omega, rfl, P0.out, C0.out, BX.out⟩
  case round =>
  clear P0 C0 BX
  obtain ⟨i, hi, rfl, hp, hcap, hbl⟩ := hrel
  have P := Lib.hid hp
  have C := Lib.hid hcap
  have BL := Lib.hid hbl
  clear hp hcap hbl
  have xw := C.out.cw.at 0 rfl
  by_cases hlt : i < m
  · have u1 : decide ((i : Int) < 2 * (n : Int)) = true := decide_eq_true (by have := HQE.out; omega)
    have HI := Lib.hid (show i < 2 * n by have := HM.out; have := HMM.out; omega)
    have hmv : atE F T n (valV l) den i = mvE F T n (valV l) i := at_mv (fun j hj e => by have := HMM.out; exact HM.out j (by omega) e)
    have PM := Lib.hid (show HoldE K wr b (mvE F T n (valV l) i) by rw [← hmv]; exact P.out)
    have HH := Lib.hid (show i % 2 = 1 → heldV (valV l) i = valV l (i / 2) from fun h => by
      cases i with
      | zero => omega
      | succ j => show valV l (j / 2) = _; rw [show (j + 1) / 2 = j / 2 by omega])
    have WI := Lib.hid (show wrap64 ((i : Int) + 1) = ((i + 1 : Nat) : Int) from (IntWalk.wrap64_in _ (by have := HI.out; have := HN.out; omega)).trans (by omega))
    have HL := Lib.hid hlt
    clear hmv hlt hi
    go_wp2_with fail
    refine (Step_mv K B b gn (gn + 1) (B + 4) B (gn + 2) (B + 2) (B + 1) (B + 3) i n len cap world F T _ den a l wr HN.out.2 HI.out HF.out HT.out HW.out HC.out C.out (HR.out.only (below_only' BL.out) (fun lp b off e k => by have := HBr.out lp b off e; have : B ≤ b := k; omega)) HBr.out PM.out HK.out.1 HK.out.2 (Nat.le_refl _) (SZ.out _ BL.out) HH.out (VB.out _)).mono ?_
    rintro e w' ⟨rfl, h1, h2, h3⟩
    have P2 := Lib.hid (show HoldE K w' b (atE F T n (valV l) den (i + 1)) from h1)
    have C2 := Lib.hid (show Cap w' gn (gn + 1) (B + 4) B (gn + 2) (B + 2) (B + 1) (B + 3) ((i + 1 : Nat) : Int) world F T (heldV (valV l) (i + 1)) den (.slice a len cap) from h2.as (by omega) rfl)
    have B2 := Lib.hid (BL.out.trans h3)
    clear h1 h2 h3 xw u1
    go_wp2_with fail
    have hl := HL.out
    exact ⟨⟨i + 1, by omega, congrArg (Value.int .i64) WI.out, P2.out, C2.out, B2.out⟩, meas_mv hl WI.out⟩
  · have u1 : decide ((i : Int) < 2 * (n : Int)) = false := decide_eq_false (by have := HQE.out; omega)
    have e0 : i = m := by omega
    subst e0
    have PF := Lib.hid (show HoldE K wr b ⟨(F + 4 * (n : Int)) % 4294967296, (T + 4 * (n : Int)) % 4294967296, 0, 0, false, false, false, true, true⟩ by rw [← fin_all (val := valV l) HM.out, HMM.out]; exact P.out)
    have CF := Lib.hid C.out
    clear P C hlt hi
    go_wp2_with fail
    refine (Step_holdE K b _ world _ wr HW.out PF.out (.inr ⟨rfl, _, _, _, rfl⟩)).mono ?_
    rintro e w7 ⟨rfl, hb⟩
    have P7 := Lib.hid (PF.out.keep hb)
    have C7 := Lib.hid (CF.out.keep hb)
    have B7 := Lib.hid (BL.out.trans (hb.mono (SZ.out _ BL.out)))
    clear hb PF CF BL xw
    have xr := C7.out.cr.at 0 rfl
    have xn := C7.out.cn.at 0 rfl
    have nn : ((i : Int) != 2 * (n : Int)) = false := by rw [HQE.out]; simp
    go_wp2_with fail
    refine (Line_holdE K b _ w7 P7.out).mono ?_
    rintro e w8 ⟨rfl, hb⟩
    have P8 := Lib.hid (P7.out.keep hb)
    have C8 := Lib.hid (C7.out.keep hb)
    have B8 := Lib.hid (B7.out.trans (hb.mono (SZ.out _ B7.out)))
    clear hb P7 C7 B7 xr xn u1 nn
    simp only [lineE]
    go_wp2_with fail
    refine (State_holdE K b _ w8 P8.out).mono ?_
    rintro e w9 ⟨rfl, hb⟩
    have C9 := Lib.hid (C8.out.keep hb)
    have B9 := Lib.hid (B8.out.trans (hb.mono (SZ.out _ B8.out)))
    clear hb P8 C8 B8
    have ad := fun o => (C9.out.cd.alloc o).at 0 rfl
    have af := fun o => (C9.out.cf.alloc o).at 0 rfl
    have at' := fun o => (C9.out.ct.alloc o).at 0 rfl
    obtain ⟨g, hg⟩ : ∃ g, w9.heap.size = g := ⟨_, rfl⟩
    have HG := Lib.hid hg
    have ee : (2 * (n : Int) - 1 == den) = false := by have := HM.out (2 * n - 1) (by have := HN.out; omega); have := HN.out; simp; omega
    go_wp2_with fail
    go_ret
    exact ⟨rfl, below_al (by rw [HB.out]; exact B9.out) _⟩
theorem moves_any (F T n0 den world : Int) (a : Option Addr) (len cap : Nat) (l : List Int) (w : World) (hF : 0 ≤ F ∧ F < 4294967296) (hT : 0 ≤ T ∧ T < 4294967296) (hd : I64 den) (hwd : I64 world) (hr : Row .u32 w a len l) :
    Calls Try.prog 5 #[.int .u32 F, .int .u32 T, .int .i64 n0, .slice a len cap, .int .i64 den, .int .i64 world] w fun e w' => e = .returned (.bool true) ∧ Below w.heap.size w w' := by
  by_cases hn : n0 < 1 ∨ 100 < n0
  · exact moves_far F T n0 den world a len cap w hn
  · obtain ⟨n, rfl⟩ := Int.eq_ofNat_of_zero_le (show 0 ≤ n0 by omega)
    have hn' : 1 ≤ n ∧ n ≤ 100 := by omega
    by_cases hin : 0 ≤ den ∧ den < 2 * (n : Int)
    · obtain ⟨d, rfl⟩ := Int.eq_ofNat_of_zero_le hin.1
      exact moves_a F T world n d a len cap l w hn' hF hT hd (by omega) hwd hr
    · by_cases h : 0 ≤ den
      · exact moves_c F T den world n a len cap l w hn' hF hT hd hin (decide_eq_true h) (decide_eq_false (fun h2 => hin ⟨h, h2⟩)) hwd hr
      · exact moves_b F T den world n a len cap l w hn' hF hT hd hin (decide_eq_false h) hwd hr
theorem moves_walk (F T n0 : Int) (a : Option Addr) (len cap : Nat) (l : List Int) (den world : Int) (w : World) (hF : (Lit.int .u32 F).wf = true) (hT : (Lit.int .u32 T).wf = true) (hn : (Lit.int .i64 n0).wf = true) (hr : Row .u32 w a len l) (h0 : a = none → cap = 0) (hd : (Lit.int .i64 den).wf = true) (hwd : (Lit.int .i64 world).wf = true) :
    Calls Try.prog 5 #[.int .u32 F, .int .u32 T, .int .i64 n0, .slice a len cap, .int .i64 den, .int .i64 world] w fun e w' => e = .returned (.bool true) ∧ Below w.heap.size w w' :=
  moves_any F T n0 den world a len cap l w (wf_u32 hF) (wf_u32 hT) (i64_wf hd) (i64_wf hwd) hr
theorem stops_walk (F T L H : Int) (has busy den don cal : Bool) (reg v : Int) (w : World) (h0 : (Lit.int .u32 F).wf = true) (h1 : (Lit.int .u32 T).wf = true) (h2 : (Lit.int .u32 L).wf = true) (h3 : (Lit.int .u32 H).wf = true) (hr : (Lit.int .i64 reg).wf = true) (hv : (Lit.int .u32 v).wf = true) :
    Calls Try.prog 6 #[.agg #[.int .u32 F, .int .u32 T, .int .u32 L, .int .u32 H, .bool has, .bool busy, .bool den, .bool don, .bool cal], .int .i64 reg, .int .u32 v] w fun e w' => e = .returned (.bool true) ∧ Below w.heap.size w w' :=
  stops_any ⟨F, T, L, H, has, busy, den, don, cal⟩ reg v w ⟨wf_u32 h0, wf_u32 h1, wf_u32 h2, wf_u32 h3⟩ (i64_wf hr) (wf_u32 hv)
end Go.Proofs.Ythpkebcedaakhaa.Dma
