/- An engine whose blocks are none of K; the walk of DmaStops. -/
import Derived.Test.YthpkebcedaakhaaDi
import Derived.Laws.BitsAllLaws
namespace Go.Proofs.Ythpkebcedaakhaa.Dma
open Go.RowKit Go.Maps Fifo Orow
set_option linter.unusedVariables false

def HoldE (K : Nat → Prop) (w : World) (b : Nat) (s : En) : Prop := ∃ O, Eng w b s O ∧ (∀ j, O j → ¬ K j) ∧ ∀ j, K j → j < w.heap.size
theorem HoldE.keep {K : Nat → Prop} {w w' : World} {b : Nat} {s : En} (h : HoldE K w b s) (hb : Below w.heap.size w w') : HoldE K w' b s := by
  obtain ⟨O, h1, h2, h3⟩ := h
  exact ⟨O, h1.keep hb, h2, fun j hj => Nat.lt_of_lt_of_le (h3 j hj) hb.size⟩
theorem HoldE.ok {K : Nat → Prop} {w : World} {b : Nat} {s : En} (h : HoldE K w b s) : OkE s ∧ InvE s := by
  obtain ⟨O, h1, _⟩ := h
  exact h1.ok
theorem HoldE.also {K : Nat → Prop} {w w' : World} {b : Nat} {s : En} (h : HoldE K w b s) (hb : Below w.heap.size w w') (D : Nat → Prop) (h1 : ∀ j, D j → w.heap.size ≤ j ∧ j < w'.heap.size) : HoldE (fun j => K j ∨ D j) w' b s := by
  obtain ⟨O, a1, a2, a3⟩ := h
  have l1 := a1.lt
  exact ⟨O, a1.keep hb, fun j hj k => k.elim (a2 j hj) (fun d => by have := (h1 j d).1; have := l1 j hj; omega), fun j hj => hj.elim (fun k => Nat.lt_of_lt_of_le (a3 j k) hb.size) (fun d => (h1 j d).2)⟩
theorem HoldE.far {K S : Nat → Prop} {w w' : World} {b : Nat} {s : En} (h : HoldE K w b s) (hS : ∀ j, S j → K j) (ho : Only S w w') : HoldE K w' b s := by
  obtain ⟨O, h1, h2, h3⟩ := h
  exact ⟨O, h1.only ho (fun j hj e => h2 j hj (hS j e)), h2, fun j hj => Nat.lt_of_lt_of_le (h3 j hj) ho.size⟩
theorem Write_holdE (K : Nat → Prop) (b : Nat) (s : En) (reg v : Int) (w : World) (h1 : I64 reg) (h2 : 0 ≤ v ∧ v < 4294967296) (h : HoldE K w b s) :
    Calls Try.prog 14 #[.pointer (some ⟨b, 0, none⟩), .int .i64 reg, .int .u32 v] w fun e w' => e = .returned (.tuple #[]) ∧ HoldE K w' b (writeE s reg v) ∧ Only (fun j => ¬ K j) w w' := by
  obtain ⟨O, a1, a2, a3⟩ := h
  refine (Write_any b s O reg v w h1 h2 a1).mono ?_
  rintro e w' ⟨rfl, O', k1, k2, k3⟩
  exact ⟨rfl, ⟨O', k1, fun j hj k => (k3 j hj).elim (fun o => a2 j o k) (fun e => by have := a3 j k; omega), fun j hj => Nat.lt_of_lt_of_le (a3 j hj) k2.size⟩, k2.mono (fun j _ o => a2 j o)⟩
theorem State_holdE (K : Nat → Prop) (b : Nat) (s : En) (w : World) (h : HoldE K w b s) :
    Calls Try.prog 18 #[.pointer (some ⟨b, 0, none⟩)] w fun e w' => e = .returned (stE s) ∧ Below w.heap.size w w' := by
  obtain ⟨O, a1, _⟩ := h
  exact State_any b s O w a1
theorem Read_holdE (K : Nat → Prop) (b : Nat) (s : En) (reg : Int) (w : World) (h1 : I64 reg) (h : HoldE K w b s) :
    Calls Try.prog 12 #[.pointer (some ⟨b, 0, none⟩), .int .i64 reg] w fun e w' => e = .returned (.int .u32 (readE s reg)) ∧ Below w.heap.size w w' := by
  obtain ⟨O, a1, _⟩ := h
  exact Read_any b s O reg w h1 a1
theorem Line_holdE (K : Nat → Prop) (b : Nat) (s : En) (w : World) (h : HoldE K w b s) :
    Calls Try.prog 20 #[.pointer (some ⟨b, 0, none⟩)] w fun e w' => e = .returned (.bool (lineE s)) ∧ Below w.heap.size w w' := by
  obtain ⟨O, a1, _⟩ := h
  exact Line_any b s O w a1
theorem Step_holdE (K : Nat → Prop) (b : Nat) (s : En) (world : Int) (f : Value) (w : World) (h1 : I64 world) (h : HoldE K w b s) (hf : f = .nilFunc ∨ (s.busy = false ∧ ∃ g rv lb, f = .func (.func g) rv lb)) :
    Calls Try.prog 17 #[.pointer (some ⟨b, 0, none⟩), .int .i64 world, f] w fun e w' => e = .returned (.bool false) ∧ Below w.heap.size w w' := by
  obtain ⟨O, a1, _⟩ := h
  exact Step_idle b s O world f w h1 a1 hf
theorem Of_holdE (K : Nat → Prop) (s : En) (w : World) (h : OkE s) (hK : ∀ j, K j → j < w.heap.size) :
    Calls Try.prog 8 #[stE s] w fun e w' => (∃ b, e = .returned (.pointer (some ⟨b, 0, none⟩)) ∧ HoldE K w' b (ofE s)) ∧ Below w.heap.size w w' := by
  refine (Of_any s w h).mono ?_
  rintro e w' ⟨⟨b, O, rfl, h1, h2⟩, hb⟩
  exact ⟨⟨b, rfl, O, h1, fun j hj k => by have := hK j k; have := h2 j hj; omega, fun j hj => Nat.lt_of_lt_of_le (hK j hj) hb.size⟩, hb⟩

theorem or_1 {v : Int} (h : 0 ≤ v ∧ v < 4294967296) : bits .or .u32 v 1 = v - v % 2 + 1 := by
  obtain ⟨x, rfl⟩ := Int.eq_ofNat_of_zero_le h.1
  rw [show (1 : Int) = ((1 : Nat) : Int) from rfl, u32_or_nat x 1 (by omega) (by omega)]
  have : x ||| 1 = x - x % 2 + 1 := by
    apply Nat.eq_of_testBit_eq
    intro i
    cases i with
    | zero => simp; omega
    | succ n =>
      rw [Nat.testBit_or, Nat.testBit_succ, Nat.testBit_succ, Nat.testBit_succ]
      rw [show (1 : Nat) / 2 = 0 from rfl, Nat.zero_testBit, Bool.or_false, show (x - x % 2 + 1) / 2 = x / 2 by omega]
  rw [this]
  omega
theorem andnot_1 {v : Int} (h : 0 ≤ v ∧ v < 4294967296) : bits .andNot .u32 v 1 = v - v % 2 := by
  obtain ⟨x, rfl⟩ := Int.eq_ofNat_of_zero_le h.1
  rw [show (1 : Int) = ((1 : Nat) : Int) from rfl, u32_andNot_nat x 1 (by omega) (by omega)]
  have : x &&& (4294967295 - 1) = x - x % 2 := by
    apply Nat.eq_of_testBit_eq
    intro i
    cases i with
    | zero => simp; omega
    | succ n =>
      rw [Nat.testBit_and, Nat.testBit_succ, Nat.testBit_succ, Nat.testBit_succ, show (4294967295 - 1) / 2 = 2 ^ 31 - 1 from rfl, Nat.testBit_two_pow_sub_one, show (x - x % 2) / 2 = x / 2 by omega]
      by_cases hn : n < 31
      · simp [hn]
      · have hx : x / 2 < 2 ^ n := Nat.lt_of_lt_of_le (show x / 2 < 2 ^ 31 by omega) (Nat.pow_le_pow_right (by decide) (by omega))
        simp [hn, Nat.testBit_lt_two_pow hx]
  rw [this]
  omega
/-- What is stopped, and what begins again. -/
def stopE (s : En) (v : Int) : En := { s with cal := decide (v / 256 % 2 = 1), busy := false, has := false, H := 0 }
def goE (s : En) (v : Int) : En := if 0 < s.L then { stopE s v with busy := true } else { stopE s v with don := true }
theorem write_stop {v : Int} (s : En) (h : 0 ≤ v ∧ v < 4294967296) : writeE s 3 (bits .andNot .u32 v 1) = stopE s v := by
  rw [andnot_1 h]
  have e1 : (v - v % 2) % 2 = 0 := by omega
  have e2 : (v - v % 2) / 256 % 2 = v / 256 % 2 := by omega
  show ctrlE s (v - v % 2) = _
  unfold ctrlE stopE
  rw [if_pos e1, e2]
theorem write_go {v : Int} (s : En) (h : 0 ≤ v ∧ v < 4294967296) : writeE (stopE s v) 3 (bits .or .u32 v 1) = goE s v := by
  rw [or_1 h]
  have e1 : ¬ (v - v % 2 + 1) % 2 = 0 := by omega
  have e2 : (v - v % 2 + 1) / 256 % 2 = v / 256 % 2 := by omega
  show ctrlE (stopE s v) (v - v % 2 + 1) = _
  unfold ctrlE goE
  rw [if_neg e1, e2, if_neg (show ¬ (stopE s v).busy = true by simp [stopE])]
  rfl
set_option maxRecDepth 100000 in
set_option maxHeartbeats 8000000 in
theorem stops_any (s0 : En) (reg v : Int) (w : World) (hs : OkE s0) (hr : I64 reg) (hv : 0 ≤ v ∧ v < 4294967296) :
    Calls Try.prog 6 #[stE s0, .int .i64 reg, .int .u32 v] w fun e w' => e = .returned (.bool true) ∧ Below w.heap.size w w' := by
  have hmf : ∀ w f r c, (Instr.makeFunc (.func f) r c).run Try.prog w = .ok (.func (.func f) r c) w := fun w f r c => rfl
  have Hs := Lib.hid hs
  have Hv := Lib.hid hv
  have Hr := Lib.hid hr
  obtain ⟨B, hB⟩ : ∃ B, w.heap.size = B := ⟨_, rfl⟩
  have HB := Lib.hid hB
  clear hs hv hr
  go_enter Try.func6, Try.ntmps6
  go_wp2_with fail
  refine calls_letter ?_
  intro W0 hW0
  have BW0 := Lib.hid (show Below B w W0 by rw [hW0.out, ← HB.out]; exact (Below.refl _ _).alloc (Nat.le_refl _) _)
  have A0 := Lib.hid (show Blk W0 B 24 (cellsE s0) by rw [hW0.out, ← HB.out]; exact Blk.new w _ _)
  clear hW0 hB
  refine (awake_any W0).mono ?_
  rintro e w1 ⟨rfl, hb⟩
  have hz := BW0.out.size
  have B1 := Lib.hid (BW0.out.trans (hb.mono (by rw [← HB.out]; exact hz)))
  have A1 := Lib.hid (A0.out.keep hb)
  clear hb hz BW0 A0
  have k0 := A1.out.at 0 rfl
  have k1 := A1.out.at 1 rfl
  have k2 := A1.out.at 2 rfl
  have k3 := A1.out.at 3 rfl
  have k4 := A1.out.at 4 rfl
  have k5 := A1.out.at 5 rfl
  have k6 := A1.out.at 6 rfl
  have k7 := A1.out.at 7 rfl
  have k8 := A1.out.at 8 rfl
  go_wp2_with fail
  have hB1 : B ≤ w1.heap.size := by have := B1.out.size; rw [HB.out] at this; exact this
  refine (Of_holdE (fun j => j < B) s0 w1 Hs.out (fun j hj => Nat.lt_of_lt_of_le hj hB1)).mono ?_
  rintro e w2 ⟨⟨b, rfl, hh⟩, hb⟩
  have B2 := Lib.hid (B1.out.trans (hb.mono hB1))
  have P2 := Lib.hid hh
  clear hb hh k0 k1 k2 k3 k4 k5 k6 k7 k8 A1 B1 hB1
  obtain ⟨s, hs⟩ : ∃ s, ofE s0 = s := ⟨_, rfl⟩
  rw [hs] at P2
  clear hs Hs
  go_wp2_with fail
  refine (State_holdE _ b s w2 P2.out).mono ?_
  rintro e w3 ⟨rfl, hb⟩
  have hB2 : B ≤ w2.heap.size := by have := B2.out.size; rw [HB.out] at this; exact this
  have B3 := Lib.hid (B2.out.trans (hb.mono hB2))
  have P3 := Lib.hid (P2.out.keep hb)
  clear hb hB2 B2 P2
  obtain ⟨F, T, L, H, has, busy, den, don, cal⟩ := s
  obtain ⟨g8, hg8⟩ : ∃ g, w3.heap.size = g := ⟨_, rfl⟩
  have HG8 := Lib.hid hg8
  have SZ := Lib.hid (show ∀ W, Below B w W → B ≤ W.heap.size from fun W h => by have := h.size; rw [HB.out] at this; exact this)
  have nF : (F != F) = false := by simp
  have nT : (T != T) = false := by simp
  have nL : (L != L) = false := by simp
  have eF : (F == F) = true := by simp
  have eT : (T == T) = true := by simp
  have eL : (L == L) = true := by simp
  have eH : (H == H) = true := by simp
  have st := fun (X : World) (hX : X = (w3.alloc (.cells #[.int .u32 F, .int .u32 T, .int .u32 L, .int .u32 H, .bool has, .bool busy, .bool den, .bool don, .bool cal] 24)).alloc (.cells #[.bool false] 4)) => (show Blk X g8 24 (cellsE ⟨F, T, L, H, has, busy, den, don, cal⟩) ∧ Blk X (g8 + 1) 4 [.bool false] ∧ HoldE (fun j => j < B ∨ (j = g8 ∨ j = g8 + 1)) X b ⟨F, T, L, H, has, busy, den, don, cal⟩ ∧ Below B w X from by
    have b1 := (Below.refl w3.heap.size w3).alloc (Nat.le_refl _) (.cells #[.int .u32 F, .int .u32 T, .int .u32 L, .int .u32 H, .bool has, .bool busy, .bool den, .bool don, .bool cal] 24)
    have b2 := b1.alloc b1.size (.cells #[.bool false] 4)
    have e : ∀ Y : World, Y.heap.size = g8 + 1 → Blk (Y.alloc (.cells #[.bool false] 4)) (g8 + 1) 4 [.bool false] := fun Y h => by rw [← h]; exact Blk.new Y _ _
    subst hX
    refine ⟨?_, e _ (by simp [HG8.out]), P3.out.also b2 (fun j => j = g8 ∨ j = g8 + 1) (fun j hj => ?_), B3.out.trans (b2.mono (SZ.out _ B3.out))⟩
    · rw [← HG8.out]; exact (Blk.new w3 _ _).alloc _
    · have := HG8.out; simp; omega)
  have ST := Lib.hid st
  have hv0 := Hv.out.1
  have hv1 := Hv.out.2
  clear st
  cases busy
  · -- not busy
    go_wp2_with fail
    refine code_letter ?_
    intro X hX
    obtain ⟨q1, q2, q3, q4⟩ := ST.out X hX.out
    have A8 := Lib.hid q1
    have A9 := Lib.hid q2
    have P := Lib.hid q3
    have BX := Lib.hid q4
    clear hX q1 q2 q3 q4 ST P3 B3 HG8 hg8
    have HSt := Lib.hid (fun W' (hb : Below X.heap.size X W') => State_holdE _ b _ W' (P.out.keep hb))
    have HSp := Lib.hid (fun W' f (hb : Below X.heap.size X W') (hf : ∃ g rv lb, f = .func (.func g) rv lb) => Step_holdE _ b _ 1 f W' ⟨by omega, by omega⟩ (P.out.keep hb) (.inr ⟨rfl, hf⟩))
    refine wp_region_ext (by kernel_rfl) (by kernel_rfl) ?_
    intro Y hY
    obtain rfl : Y = X := hY.out
    clear hY
    have y0 := ext_cell (A8.out.at 0 rfl)
    have y1 := ext_cell (A8.out.at 1 rfl)
    have y2 := ext_cell (A8.out.at 2 rfl)
    have y3 := ext_cell (A8.out.at 3 rfl)
    have y4 := ext_cell (A8.out.at 4 rfl)
    have y5 := ext_cell (A8.out.at 5 rfl)
    have y6 := ext_cell (A8.out.at 6 rfl)
    have y7 := ext_cell (A8.out.at 7 rfl)
    have y8 := ext_cell (A8.out.at 8 rfl)
    have y9 := ext_cell (A9.out.at 0 rfl)
    have hEx := Lib.hid (fun q => ext_below Y q)
    repeat (go_big_quiet_step ((first
      | (go_at_call 18; with_reducible exact ext_of (HSt.out _ (hEx.out _)))
      | (go_at_call 17; with_reducible exact ext_of (HSp.out _ _ (hEx.out _) ⟨_, _, _, rfl⟩)))))
    refine wpQuiet_nil ?_
    intro w9 hw9
    have h9 : Below Y.heap.size Y w9 := by obtain ⟨p9, rfl⟩ := hw9; exact ext_below Y p9
    have A8' := Lib.hid (A8.out.keep h9)
    have A9' := Lib.hid (A9.out.keep h9)
    have P' := Lib.hid (P.out.keep h9)
    have B' := Lib.hid (BX.out.trans (h9.mono (SZ.out _ BX.out)))
    obtain ⟨V, rfl⟩ : ∃ V, V = w9 := ⟨_, rfl⟩
    clear hw9 h9 hEx y9 y0 y1 y2 y3 y4 y5 y6 y7 y8 HSt HSp A8 A9 P BX
    have w1 := write_stop ⟨F, T, L, H, has, false, den, don, cal⟩ Hv.out
    have w2 := write_go ⟨F, T, L, H, has, false, den, don, cal⟩ Hv.out
    obtain ⟨cb, hcb⟩ : ∃ c, decide (v / 256 % 2 = 1) = c := ⟨_, rfl⟩
    have e2 : stopE ⟨F, T, L, H, has, false, den, don, cal⟩ v = ⟨F, T, L, 0, false, false, den, don, cb⟩ := by unfold stopE; rw [hcb]
    rw [e2] at w1 w2
    have tc : Int.tmod (v / 256) 2 = v / 256 % 2 := Int.tmod_eq_emod_of_nonneg (by omega)
    have ecb : (v / 256 % 2 == 1) = cb := by rw [← hcb]; exact Bool.beq_eq_decide_eq _ _
    have sg : IntKind.u32.signed = false := rfl
    obtain ⟨v1, hv1'⟩ : ∃ q, bits BinOp.andNot IntKind.u32 v 1 = q := ⟨_, rfl⟩
    have hr1 : 0 ≤ v1 ∧ v1 < 4294967296 := wf_u32 (by have := wf_bits .andNot .u32 v 1; rwa [hv1'] at this)
    rw [hv1'] at w1
    have HW1 := Lib.hid w1
    have HW2 := Lib.hid w2
    clear w1 w2 hcb e2
    go_wp2_with fail
    refine (Write_holdE _ b _ 3 v1 V ⟨by omega, by omega⟩ hr1 P'.out).mono ?_
    rintro e V1 ⟨rfl, h1, o1⟩
    rw [HW1.out] at h1
    have P1 := Lib.hid h1
    have A81 := Lib.hid (A8'.out.only o1 (fun e => e (.inr (.inl rfl))))
    have A91 := Lib.hid (A9'.out.only o1 (fun e => e (.inr (.inr rfl))))
    have B1 := Lib.hid (below_onlyE B'.out o1 (by rw [HB.out]; exact Nat.le_refl _) (fun j hj => .inl hj))
    clear h1 o1 P' A8' A9' B' hv1' hr1
    go_wp2_with fail
    refine (State_holdE _ b _ V1 P1.out).mono ?_
    rintro e V2 ⟨rfl, hb⟩
    have P2 := Lib.hid (P1.out.keep hb)
    have A82 := Lib.hid (A81.out.keep hb)
    have A92 := Lib.hid (A91.out.keep hb)
    have B2 := Lib.hid (B1.out.trans (hb.mono (SZ.out _ B1.out)))
    clear hb P1 A81 A91 B1
    obtain ⟨g11, hg11⟩ : ∃ g, V2.heap.size = g := ⟨_, rfl⟩
    have HG11 := Lib.hid hg11
    have al0 := fun o => cell_keep ((Below.refl V2.heap.size V2).alloc (Nat.le_refl _) o) (A82.out.at 0 rfl)
    have al1 := fun o => cell_keep ((Below.refl V2.heap.size V2).alloc (Nat.le_refl _) o) (A82.out.at 1 rfl)
    have al2 := fun o => cell_keep ((Below.refl V2.heap.size V2).alloc (Nat.le_refl _) o) (A82.out.at 2 rfl)
    go_wp2_with fail
    refine calls_letter ?_
    intro V3 hV3
    have hal := (Below.refl V2.heap.size V2).alloc (Nat.le_refl _) (.cells #[.int .u32 F, .int .u32 T, .int .u32 L, .int .u32 0, .bool false, .bool false, .bool den, .bool don, .bool cb] 24)
    have P3 := Lib.hid (show HoldE _ V3 b _ by rw [hV3.out]; exact P2.out.keep hal)
    have A83 := Lib.hid (show Blk V3 g8 24 _ by rw [hV3.out]; exact A82.out.keep hal)
    have A93 := Lib.hid (show Blk V3 (g8 + 1) 4 _ by rw [hV3.out]; exact A92.out.keep hal)
    have B3 := Lib.hid (show Below B w V3 by rw [hV3.out]; exact B2.out.trans (hal.mono (SZ.out _ B2.out)))
    clear hV3 hal al0 al1 al2 P2 A82 A92 B2 hg11 HG11
    refine (Step_holdE _ b _ 1 _ V3 ⟨by omega, by omega⟩ P3.out (.inr ⟨rfl, _, _, _, rfl⟩)).mono ?_
    rintro e V4 ⟨rfl, hb⟩
    have P4 := Lib.hid (P3.out.keep hb)
    have A84 := Lib.hid (A83.out.keep hb)
    have a9 := (A93.out.keep hb).at 0 rfl
    have B4 := Lib.hid (B3.out.trans (hb.mono (SZ.out _ B3.out)))
    clear hb P3 A83 A93 B3
    obtain ⟨v2, hv2'⟩ : ∃ q, bits BinOp.or IntKind.u32 v 1 = q := ⟨_, rfl⟩
    have hr2 : 0 ≤ v2 ∧ v2 < 4294967296 := wf_u32 (by have := wf_bits .or .u32 v 1; rwa [hv2'] at this)
    have hw2 := HW2.out
    rw [hv2'] at hw2
    have HW3 := Lib.hid hw2
    clear hw2 HW2
    go_wp2_with fail
    refine (Write_holdE _ b _ 3 v2 V4 ⟨by omega, by omega⟩ hr2 P4.out).mono ?_
    rintro e V5 ⟨rfl, h1, o1⟩
    rw [HW3.out] at h1
    have P5 := Lib.hid h1
    have A85 := Lib.hid (A84.out.only o1 (fun e => e (.inr (.inl rfl))))
    have B5 := Lib.hid (below_onlyE B4.out o1 (by rw [HB.out]; exact Nat.le_refl _) (fun j hj => .inl hj))
    clear h1 o1 P4 A84 B4 hv2' hr2 a9 HW3
    by_cases hl : 0 < L
    · have d1 : decide (0 < L) = true := decide_eq_true hl
      have d2 : (L == 0) = false := by have : ¬ L = 0 := by omega
                                       simpa using this
      have eg : goE ⟨F, T, L, H, has, false, den, don, cal⟩ v = ⟨F, T, L, 0, false, true, den, don, cb⟩ := by
        unfold goE
        rw [if_pos (show 0 < (⟨F, T, L, H, has, false, den, don, cal⟩ : En).L from hl)]
        simp only [stopE]
        congr 1
      have P5 := Lib.hid (show HoldE _ V5 b ⟨F, T, L, 0, false, true, den, don, cb⟩ by rw [← eg]; exact P5.out)
      clear hl eg
      go_wp2_with fail
      refine (State_holdE _ b _ V5 P5.out).mono ?_
      rintro e V6 ⟨rfl, hb⟩
      have P6 := Lib.hid (P5.out.keep hb)
      have A86 := Lib.hid (A85.out.keep hb)
      have B6 := Lib.hid (B5.out.trans (hb.mono (SZ.out _ B5.out)))
      clear hb P5 A85 B5
      obtain ⟨g12, hg12⟩ : ∃ g, V6.heap.size = g := ⟨_, rfl⟩
      have HG12 := Lib.hid hg12
      have al2 := fun o => cell_keep ((Below.refl V6.heap.size V6).alloc (Nat.le_refl _) o) (A86.out.at 2 rfl)
      have al7 := fun o => cell_keep ((Below.refl V6.heap.size V6).alloc (Nat.le_refl _) o) (A86.out.at 7 rfl)
      have nb : (cb != cb) = false := by simp
      have MK := Lib.hid (fun (X : World) (hX : X = V6.alloc (.cells #[.int .u32 F, .int .u32 T, .int .u32 L, .int .u32 0, .bool false, .bool true, .bool den, .bool don, .bool cb] 24)) => (show Blk X g12 24 (cellsE ⟨F, T, L, 0, false, true, den, don, cb⟩) ∧ HoldE (fun j => j < B ∨ (j = g8 ∨ j = g8 + 1)) X b ⟨F, T, L, 0, false, true, den, don, cb⟩ ∧ Below B w X from by
        subst hX
        have hal := (Below.refl V6.heap.size V6).alloc (Nat.le_refl _) (.cells #[.int .u32 F, .int .u32 T, .int .u32 L, .int .u32 0, .bool false, .bool true, .bool den, .bool don, .bool cb] 24)
        exact ⟨by rw [← HG12.out]; exact Blk.new V6 _ _, P6.out.keep hal, B6.out.trans (hal.mono (SZ.out _ B6.out))⟩))
      clear A86
      cases don
      all_goals (
        skip
        all_goals (
          go_wp2_with fail
          refine calls_letter ?_
          intro V7 hV7
          obtain ⟨q1, q2, q3⟩ := MK.out V7 hV7.out
          have P7 := Lib.hid q2
          have A12 := Lib.hid q1
          have B7 := Lib.hid q3
          clear q1 q2 q3 hV7 al2 al7 P6 B6 hg12 HG12 MK
          refine (Read_holdE _ b _ reg V7 Hr.out P7.out).mono ?_
          rintro e V8 ⟨rfl, hb⟩
          have P8 := Lib.hid (P7.out.keep hb)
          have A13 := Lib.hid (A12.out.keep hb)
          have B8 := Lib.hid (B7.out.trans (hb.mono (SZ.out _ B7.out)))
          clear hb P7 A12 B7
          have HSt := Lib.hid (fun W' (hb : Below V8.heap.size V8 W') => State_holdE _ b _ W' (P8.out.keep hb))
          go_wp2_with fail
          refine wp_region_ext (by kernel_rfl) (by kernel_rfl) ?_
          intro Y hY
          obtain rfl : Y = V8 := hY.out
          clear hY
          have y0 := ext_cell (A13.out.at 0 rfl)
          have y1 := ext_cell (A13.out.at 1 rfl)
          have y2 := ext_cell (A13.out.at 2 rfl)
          have y3 := ext_cell (A13.out.at 3 rfl)
          have y4 := ext_cell (A13.out.at 4 rfl)
          have y5 := ext_cell (A13.out.at 5 rfl)
          have y6 := ext_cell (A13.out.at 6 rfl)
          have y7 := ext_cell (A13.out.at 7 rfl)
          have y8 := ext_cell (A13.out.at 8 rfl)
          have hEx := Lib.hid (fun q => ext_below Y q)
          repeat (go_big_quiet_step ((first
            | (go_at_call 18; with_reducible exact ext_of (HSt.out _ (hEx.out _))))))
          refine wpQuiet_nil ?_
          intro w9 hw9
          have h9 : Below Y.heap.size Y w9 := by obtain ⟨p9, rfl⟩ := hw9; exact ext_below Y p9
          have B9 := Lib.hid (B8.out.trans (h9.mono (SZ.out _ B8.out)))
          clear hw9 h9 hEx y0 y1 y2 y3 y4 y5 y6 y7 y8 HSt
          go_wp2_with fail
          go_ret
          exact ⟨rfl, by rw [HB.out]; exact B9.out⟩))
    · have d1 : decide (0 < L) = false := decide_eq_false hl
      have hL0 := P5.out.ok.1.l
      have e0 : L = 0 := by
        have e1 : (goE ⟨F, T, L, H, has, false, den, don, cal⟩ v).L = L := by unfold goE; rw [if_neg (show ¬ 0 < (⟨F, T, L, H, has, false, den, don, cal⟩ : En).L from hl)]; rfl
        rw [e1] at hL0
        omega
      have d2 : (L == 0) = true := by simpa using e0
      have eg : goE ⟨F, T, L, H, has, false, den, don, cal⟩ v = ⟨F, T, L, 0, false, false, den, true, cb⟩ := by
        unfold goE
        rw [if_neg (show ¬ 0 < (⟨F, T, L, H, has, false, den, don, cal⟩ : En).L from hl)]
        simp only [stopE]
        congr 1
      have P5 := Lib.hid (show HoldE _ V5 b ⟨F, T, L, 0, false, false, den, true, cb⟩ by rw [← eg]; exact P5.out)
      clear hl eg e0 hL0
      go_wp2_with fail
      refine (State_holdE _ b _ V5 P5.out).mono ?_
      rintro e V6 ⟨rfl, hb⟩
      have P6 := Lib.hid (P5.out.keep hb)
      have A86 := Lib.hid (A85.out.keep hb)
      have B6 := Lib.hid (B5.out.trans (hb.mono (SZ.out _ B5.out)))
      clear hb P5 A85 B5
      obtain ⟨g12, hg12⟩ : ∃ g, V6.heap.size = g := ⟨_, rfl⟩
      have HG12 := Lib.hid hg12
      have al2 := fun o => cell_keep ((Below.refl V6.heap.size V6).alloc (Nat.le_refl _) o) (A86.out.at 2 rfl)
      have al7 := fun o => cell_keep ((Below.refl V6.heap.size V6).alloc (Nat.le_refl _) o) (A86.out.at 7 rfl)
      have nb : (cb != cb) = false := by simp
      have MK := Lib.hid (fun (X : World) (hX : X = V6.alloc (.cells #[.int .u32 F, .int .u32 T, .int .u32 L, .int .u32 0, .bool false, .bool false, .bool den, .bool true, .bool cb] 24)) => (show Blk X g12 24 (cellsE ⟨F, T, L, 0, false, false, den, true, cb⟩) ∧ HoldE (fun j => j < B ∨ (j = g8 ∨ j = g8 + 1)) X b ⟨F, T, L, 0, false, false, den, true, cb⟩ ∧ Below B w X from by
        subst hX
        have hal := (Below.refl V6.heap.size V6).alloc (Nat.le_refl _) (.cells #[.int .u32 F, .int .u32 T, .int .u32 L, .int .u32 0, .bool false, .bool false, .bool den, .bool true, .bool cb] 24)
        exact ⟨by rw [← HG12.out]; exact Blk.new V6 _ _, P6.out.keep hal, B6.out.trans (hal.mono (SZ.out _ B6.out))⟩))
      clear A86
      cases don
      all_goals (
        skip
        all_goals (
          go_wp2_with fail
          refine calls_letter ?_
          intro V7 hV7
          obtain ⟨q1, q2, q3⟩ := MK.out V7 hV7.out
          have P7 := Lib.hid q2
          have A12 := Lib.hid q1
          have B7 := Lib.hid q3
          clear q1 q2 q3 hV7 al2 al7 P6 B6 hg12 HG12 MK
          refine (Read_holdE _ b _ reg V7 Hr.out P7.out).mono ?_
          rintro e V8 ⟨rfl, hb⟩
          have P8 := Lib.hid (P7.out.keep hb)
          have A13 := Lib.hid (A12.out.keep hb)
          have B8 := Lib.hid (B7.out.trans (hb.mono (SZ.out _ B7.out)))
          clear hb P7 A12 B7
          have HSt := Lib.hid (fun W' (hb : Below V8.heap.size V8 W') => State_holdE _ b _ W' (P8.out.keep hb))
          go_wp2_with fail
          refine wp_region_ext (by kernel_rfl) (by kernel_rfl) ?_
          intro Y hY
          obtain rfl : Y = V8 := hY.out
          clear hY
          have y0 := ext_cell (A13.out.at 0 rfl)
          have y1 := ext_cell (A13.out.at 1 rfl)
          have y2 := ext_cell (A13.out.at 2 rfl)
          have y3 := ext_cell (A13.out.at 3 rfl)
          have y4 := ext_cell (A13.out.at 4 rfl)
          have y5 := ext_cell (A13.out.at 5 rfl)
          have y6 := ext_cell (A13.out.at 6 rfl)
          have y7 := ext_cell (A13.out.at 7 rfl)
          have y8 := ext_cell (A13.out.at 8 rfl)
          have hEx := Lib.hid (fun q => ext_below Y q)
          repeat (go_big_quiet_step ((first
            | (go_at_call 18; with_reducible exact ext_of (HSt.out _ (hEx.out _))))))
          refine wpQuiet_nil ?_
          intro w9 hw9
          have h9 : Below Y.heap.size Y w9 := by obtain ⟨p9, rfl⟩ := hw9; exact ext_below Y p9
          have B9 := Lib.hid (B8.out.trans (h9.mono (SZ.out _ B8.out)))
          clear hw9 h9 hEx y0 y1 y2 y3 y4 y5 y6 y7 y8 HSt
          go_wp2_with fail
          go_ret
          exact ⟨rfl, by rw [HB.out]; exact B9.out⟩))
  · -- busy
    go_wp2_with fail
    refine calls_letter ?_
    intro X hX
    obtain ⟨q1, q2, q3, q4⟩ := ST.out X hX.out
    have A8 := Lib.hid q1
    have A9 := Lib.hid q2
    have P := Lib.hid q3
    have BX := Lib.hid q4
    clear hX q1 q2 q3 q4 ST P3 B3 HG8 hg8
    refine (Write_holdE _ b _ 0 v X ⟨by omega, by omega⟩ Hv.out P.out).mono ?_
    rintro e X1 ⟨rfl, h1, o1⟩
    rw [show writeE ⟨F, T, L, H, has, true, den, don, cal⟩ 0 v = ⟨F, T, L, H, has, true, den, don, cal⟩ from rfl] at h1
    have P1 := Lib.hid h1
    have O1 := Lib.hid o1
    clear h1 o1
    go_wp2_with fail
    refine (Write_holdE _ b _ 1 v X1 ⟨by omega, by omega⟩ Hv.out P1.out).mono ?_
    rintro e X2 ⟨rfl, h1, o1⟩
    rw [show writeE ⟨F, T, L, H, has, true, den, don, cal⟩ 1 v = ⟨F, T, L, H, has, true, den, don, cal⟩ from rfl] at h1
    have P2 := Lib.hid h1
    have O2 := Lib.hid (O1.out.trans o1)
    clear h1 o1 P1 O1
    go_wp2_with fail
    refine (Write_holdE _ b _ 2 v X2 ⟨by omega, by omega⟩ Hv.out P2.out).mono ?_
    rintro e X3 ⟨rfl, h1, o1⟩
    rw [show writeE ⟨F, T, L, H, has, true, den, don, cal⟩ 2 v = ⟨F, T, L, H, has, true, den, don, cal⟩ from rfl] at h1
    have P3 := Lib.hid h1
    have O3 := Lib.hid (O2.out.trans o1)
    have A83 := Lib.hid (A8.out.only O3.out (fun e => e (.inr (.inl rfl))))
    have A93 := Lib.hid (A9.out.only O3.out (fun e => e (.inr (.inr rfl))))
    have B3 := Lib.hid (below_onlyE BX.out O3.out (by rw [HB.out]; exact Nat.le_refl _) (fun j hj => .inl hj))
    clear h1 o1 P2 O2 A8 A9 P BX
    have HSt := Lib.hid (fun W' (hb : Below X3.heap.size X3 W') => State_holdE _ b _ W' (P3.out.keep hb))
    go_wp2_with fail
    refine wp_region_ext (by kernel_rfl) (by kernel_rfl) ?_
    intro Y hY
    obtain rfl : Y = X3 := hY.out
    clear hY
    have y0 := ext_cell (A83.out.at 0 rfl)
    have y1 := ext_cell (A83.out.at 1 rfl)
    have y2 := ext_cell (A83.out.at 2 rfl)
    have y3 := ext_cell (A83.out.at 3 rfl)
    have y4 := ext_cell (A83.out.at 4 rfl)
    have y5 := ext_cell (A83.out.at 5 rfl)
    have y6 := ext_cell (A83.out.at 6 rfl)
    have y7 := ext_cell (A83.out.at 7 rfl)
    have y8 := ext_cell (A83.out.at 8 rfl)
    have hEx := Lib.hid (fun q => ext_below Y q)
    repeat (go_big_quiet_step ((first
      | (go_at_call 18; with_reducible exact ext_of (HSt.out _ (hEx.out _))))))
    refine wpQuiet_nil ?_
    intro w9 hw9
    have h9 : Below Y.heap.size Y w9 := by obtain ⟨p9, rfl⟩ := hw9; exact ext_below Y p9
    have A8' := Lib.hid (A83.out.keep h9)
    have A9' := Lib.hid (A93.out.keep h9)
    have P' := Lib.hid (P3.out.keep h9)
    have B' := Lib.hid (B3.out.trans (h9.mono (SZ.out _ B3.out)))
    obtain ⟨V, rfl⟩ : ∃ V, V = w9 := ⟨_, rfl⟩
    clear hw9 h9 hEx y0 y1 y2 y3 y4 y5 y6 y7 y8 HSt A83 A93 P3 B3 O3
    have w1 := write_stop ⟨F, T, L, H, has, true, den, don, cal⟩ Hv.out
    have w2 := write_go ⟨F, T, L, H, has, true, den, don, cal⟩ Hv.out
    obtain ⟨cb, hcb⟩ : ∃ c, decide (v / 256 % 2 = 1) = c := ⟨_, rfl⟩
    have e2 : stopE ⟨F, T, L, H, has, true, den, don, cal⟩ v = ⟨F, T, L, 0, false, false, den, don, cb⟩ := by unfold stopE; rw [hcb]
    rw [e2] at w1 w2
    have tc : Int.tmod (v / 256) 2 = v / 256 % 2 := Int.tmod_eq_emod_of_nonneg (by omega)
    have ecb : (v / 256 % 2 == 1) = cb := by rw [← hcb]; exact Bool.beq_eq_decide_eq _ _
    have sg : IntKind.u32.signed = false := rfl
    obtain ⟨v1, hv1'⟩ : ∃ q, bits BinOp.andNot IntKind.u32 v 1 = q := ⟨_, rfl⟩
    have hr1 : 0 ≤ v1 ∧ v1 < 4294967296 := wf_u32 (by have := wf_bits .andNot .u32 v 1; rwa [hv1'] at this)
    rw [hv1'] at w1
    have HW1 := Lib.hid w1
    have HW2 := Lib.hid w2
    clear w1 w2 hcb e2
    go_wp2_with fail
    refine (Write_holdE _ b _ 3 v1 V ⟨by omega, by omega⟩ hr1 P'.out).mono ?_
    rintro e V1 ⟨rfl, h1, o1⟩
    rw [HW1.out] at h1
    have P1 := Lib.hid h1
    have A81 := Lib.hid (A8'.out.only o1 (fun e => e (.inr (.inl rfl))))
    have A91 := Lib.hid (A9'.out.only o1 (fun e => e (.inr (.inr rfl))))
    have B1 := Lib.hid (below_onlyE B'.out o1 (by rw [HB.out]; exact Nat.le_refl _) (fun j hj => .inl hj))
    clear h1 o1 P' A8' A9' B' hv1' hr1
    go_wp2_with fail
    refine (State_holdE _ b _ V1 P1.out).mono ?_
    rintro e V2 ⟨rfl, hb⟩
    have P2 := Lib.hid (P1.out.keep hb)
    have A82 := Lib.hid (A81.out.keep hb)
    have A92 := Lib.hid (A91.out.keep hb)
    have B2 := Lib.hid (B1.out.trans (hb.mono (SZ.out _ B1.out)))
    clear hb P1 A81 A91 B1
    obtain ⟨g11, hg11⟩ : ∃ g, V2.heap.size = g := ⟨_, rfl⟩
    have HG11 := Lib.hid hg11
    have al0 := fun o => cell_keep ((Below.refl V2.heap.size V2).alloc (Nat.le_refl _) o) (A82.out.at 0 rfl)
    have al1 := fun o => cell_keep ((Below.refl V2.heap.size V2).alloc (Nat.le_refl _) o) (A82.out.at 1 rfl)
    have al2 := fun o => cell_keep ((Below.refl V2.heap.size V2).alloc (Nat.le_refl _) o) (A82.out.at 2 rfl)
    go_wp2_with fail
    refine calls_letter ?_
    intro V3 hV3
    have hal := (Below.refl V2.heap.size V2).alloc (Nat.le_refl _) (.cells #[.int .u32 F, .int .u32 T, .int .u32 L, .int .u32 0, .bool false, .bool false, .bool den, .bool don, .bool cb] 24)
    have P3 := Lib.hid (show HoldE _ V3 b _ by rw [hV3.out]; exact P2.out.keep hal)
    have A83 := Lib.hid (show Blk V3 g8 24 _ by rw [hV3.out]; exact A82.out.keep hal)
    have A93 := Lib.hid (show Blk V3 (g8 + 1) 4 _ by rw [hV3.out]; exact A92.out.keep hal)
    have B3 := Lib.hid (show Below B w V3 by rw [hV3.out]; exact B2.out.trans (hal.mono (SZ.out _ B2.out)))
    clear hV3 hal al0 al1 al2 P2 A82 A92 B2 hg11 HG11
    refine (Step_holdE _ b _ 1 _ V3 ⟨by omega, by omega⟩ P3.out (.inr ⟨rfl, _, _, _, rfl⟩)).mono ?_
    rintro e V4 ⟨rfl, hb⟩
    have P4 := Lib.hid (P3.out.keep hb)
    have A84 := Lib.hid (A83.out.keep hb)
    have a9 := (A93.out.keep hb).at 0 rfl
    have B4 := Lib.hid (B3.out.trans (hb.mono (SZ.out _ B3.out)))
    clear hb P3 A83 A93 B3
    obtain ⟨v2, hv2'⟩ : ∃ q, bits BinOp.or IntKind.u32 v 1 = q := ⟨_, rfl⟩
    have hr2 : 0 ≤ v2 ∧ v2 < 4294967296 := wf_u32 (by have := wf_bits .or .u32 v 1; rwa [hv2'] at this)
    have hw2 := HW2.out
    rw [hv2'] at hw2
    have HW3 := Lib.hid hw2
    clear hw2 HW2
    go_wp2_with fail
    refine (Write_holdE _ b _ 3 v2 V4 ⟨by omega, by omega⟩ hr2 P4.out).mono ?_
    rintro e V5 ⟨rfl, h1, o1⟩
    rw [HW3.out] at h1
    have P5 := Lib.hid h1
    have A85 := Lib.hid (A84.out.only o1 (fun e => e (.inr (.inl rfl))))
    have B5 := Lib.hid (below_onlyE B4.out o1 (by rw [HB.out]; exact Nat.le_refl _) (fun j hj => .inl hj))
    clear h1 o1 P4 A84 B4 hv2' hr2 a9 HW3
    by_cases hl : 0 < L
    · have d1 : decide (0 < L) = true := decide_eq_true hl
      have d2 : (L == 0) = false := by have : ¬ L = 0 := by omega
                                       simpa using this
      have eg : goE ⟨F, T, L, H, has, true, den, don, cal⟩ v = ⟨F, T, L, 0, false, true, den, don, cb⟩ := by
        unfold goE
        rw [if_pos (show 0 < (⟨F, T, L, H, has, true, den, don, cal⟩ : En).L from hl)]
        simp only [stopE]
        congr 1
      have P5 := Lib.hid (show HoldE _ V5 b ⟨F, T, L, 0, false, true, den, don, cb⟩ by rw [← eg]; exact P5.out)
      clear hl eg
      go_wp2_with fail
      refine (State_holdE _ b _ V5 P5.out).mono ?_
      rintro e V6 ⟨rfl, hb⟩
      have P6 := Lib.hid (P5.out.keep hb)
      have A86 := Lib.hid (A85.out.keep hb)
      have B6 := Lib.hid (B5.out.trans (hb.mono (SZ.out _ B5.out)))
      clear hb P5 A85 B5
      obtain ⟨g12, hg12⟩ : ∃ g, V6.heap.size = g := ⟨_, rfl⟩
      have HG12 := Lib.hid hg12
      have al2 := fun o => cell_keep ((Below.refl V6.heap.size V6).alloc (Nat.le_refl _) o) (A86.out.at 2 rfl)
      have al7 := fun o => cell_keep ((Below.refl V6.heap.size V6).alloc (Nat.le_refl _) o) (A86.out.at 7 rfl)
      have nb : (cb != cb) = false := by simp
      have MK := Lib.hid (fun (X : World) (hX : X = V6.alloc (.cells #[.int .u32 F, .int .u32 T, .int .u32 L, .int .u32 0, .bool false, .bool true, .bool den, .bool don, .bool cb] 24)) => (show Blk X g12 24 (cellsE ⟨F, T, L, 0, false, true, den, don, cb⟩) ∧ HoldE (fun j => j < B ∨ (j = g8 ∨ j = g8 + 1)) X b ⟨F, T, L, 0, false, true, den, don, cb⟩ ∧ Below B w X from by
        subst hX
        have hal := (Below.refl V6.heap.size V6).alloc (Nat.le_refl _) (.cells #[.int .u32 F, .int .u32 T, .int .u32 L, .int .u32 0, .bool false, .bool true, .bool den, .bool don, .bool cb] 24)
        exact ⟨by rw [← HG12.out]; exact Blk.new V6 _ _, P6.out.keep hal, B6.out.trans (hal.mono (SZ.out _ B6.out))⟩))
      clear A86
      cases don
      all_goals (
        skip
        all_goals (
          go_wp2_with fail
          refine calls_letter ?_
          intro V7 hV7
          obtain ⟨q1, q2, q3⟩ := MK.out V7 hV7.out
          have P7 := Lib.hid q2
          have A12 := Lib.hid q1
          have B7 := Lib.hid q3
          clear q1 q2 q3 hV7 al2 al7 P6 B6 hg12 HG12 MK
          refine (Read_holdE _ b _ reg V7 Hr.out P7.out).mono ?_
          rintro e V8 ⟨rfl, hb⟩
          have P8 := Lib.hid (P7.out.keep hb)
          have A13 := Lib.hid (A12.out.keep hb)
          have B8 := Lib.hid (B7.out.trans (hb.mono (SZ.out _ B7.out)))
          clear hb P7 A12 B7
          have HSt := Lib.hid (fun W' (hb : Below V8.heap.size V8 W') => State_holdE _ b _ W' (P8.out.keep hb))
          go_wp2_with fail
          refine wp_region_ext (by kernel_rfl) (by kernel_rfl) ?_
          intro Y hY
          obtain rfl : Y = V8 := hY.out
          clear hY
          have y0 := ext_cell (A13.out.at 0 rfl)
          have y1 := ext_cell (A13.out.at 1 rfl)
          have y2 := ext_cell (A13.out.at 2 rfl)
          have y3 := ext_cell (A13.out.at 3 rfl)
          have y4 := ext_cell (A13.out.at 4 rfl)
          have y5 := ext_cell (A13.out.at 5 rfl)
          have y6 := ext_cell (A13.out.at 6 rfl)
          have y7 := ext_cell (A13.out.at 7 rfl)
          have y8 := ext_cell (A13.out.at 8 rfl)
          have hEx := Lib.hid (fun q => ext_below Y q)
          repeat (go_big_quiet_step ((first
            | (go_at_call 18; with_reducible exact ext_of (HSt.out _ (hEx.out _))))))
          refine wpQuiet_nil ?_
          intro w9 hw9
          have h9 : Below Y.heap.size Y w9 := by obtain ⟨p9, rfl⟩ := hw9; exact ext_below Y p9
          have B9 := Lib.hid (B8.out.trans (h9.mono (SZ.out _ B8.out)))
          clear hw9 h9 hEx y0 y1 y2 y3 y4 y5 y6 y7 y8 HSt
          go_wp2_with fail
          go_ret
          exact ⟨rfl, by rw [HB.out]; exact B9.out⟩))
    · have d1 : decide (0 < L) = false := decide_eq_false hl
      have hL0 := P5.out.ok.1.l
      have e0 : L = 0 := by
        have e1 : (goE ⟨F, T, L, H, has, true, den, don, cal⟩ v).L = L := by unfold goE; rw [if_neg (show ¬ 0 < (⟨F, T, L, H, has, true, den, don, cal⟩ : En).L from hl)]; rfl
        rw [e1] at hL0
        omega
      have d2 : (L == 0) = true := by simpa using e0
      have eg : goE ⟨F, T, L, H, has, true, den, don, cal⟩ v = ⟨F, T, L, 0, false, false, den, true, cb⟩ := by
        unfold goE
        rw [if_neg (show ¬ 0 < (⟨F, T, L, H, has, true, den, don, cal⟩ : En).L from hl)]
        simp only [stopE]
        congr 1
      have P5 := Lib.hid (show HoldE _ V5 b ⟨F, T, L, 0, false, false, den, true, cb⟩ by rw [← eg]; exact P5.out)
      clear hl eg e0 hL0
      go_wp2_with fail
      refine (State_holdE _ b _ V5 P5.out).mono ?_
      rintro e V6 ⟨rfl, hb⟩
      have P6 := Lib.hid (P5.out.keep hb)
      have A86 := Lib.hid (A85.out.keep hb)
      have B6 := Lib.hid (B5.out.trans (hb.mono (SZ.out _ B5.out)))
      clear hb P5 A85 B5
      obtain ⟨g12, hg12⟩ : ∃ g, V6.heap.size = g := ⟨_, rfl⟩
      have HG12 := Lib.hid hg12
      have al2 := fun o => cell_keep ((Below.refl V6.heap.size V6).alloc (Nat.le_refl _) o) (A86.out.at 2 rfl)
      have al7 := fun o => cell_keep ((Below.refl V6.heap.size V6).alloc (Nat.le_refl _) o) (A86.out.at 7 rfl)
      have nb : (cb != cb) = false := by simp
      have MK := Lib.hid (fun (X : World) (hX : X = V6.alloc (.cells #[.int .u32 F, .int .u32 T, .int .u32 L, .int .u32 0, .bool false, .bool false, .bool den, .bool true, .bool cb] 24)) => (show Blk X g12 24 (cellsE ⟨F, T, L, 0, false, false, den, true, cb⟩) ∧ HoldE (fun j => j < B ∨ (j = g8 ∨ j = g8 + 1)) X b ⟨F, T, L, 0, false, false, den, true, cb⟩ ∧ Below B w X from by
        subst hX
        have hal := (Below.refl V6.heap.size V6).alloc (Nat.le_refl _) (.cells #[.int .u32 F, .int .u32 T, .int .u32 L, .int .u32 0, .bool false, .bool false, .bool den, .bool true, .bool cb] 24)
        exact ⟨by rw [← HG12.out]; exact Blk.new V6 _ _, P6.out.keep hal, B6.out.trans (hal.mono (SZ.out _ B6.out))⟩))
      clear A86
      cases don
      all_goals (
        skip
        all_goals (
          go_wp2_with fail
          refine calls_letter ?_
          intro V7 hV7
          obtain ⟨q1, q2, q3⟩ := MK.out V7 hV7.out
          have P7 := Lib.hid q2
          have A12 := Lib.hid q1
          have B7 := Lib.hid q3
          clear q1 q2 q3 hV7 al2 al7 P6 B6 hg12 HG12 MK
          refine (Read_holdE _ b _ reg V7 Hr.out P7.out).mono ?_
          rintro e V8 ⟨rfl, hb⟩
          have P8 := Lib.hid (P7.out.keep hb)
          have A13 := Lib.hid (A12.out.keep hb)
          have B8 := Lib.hid (B7.out.trans (hb.mono (SZ.out _ B7.out)))
          clear hb P7 A12 B7
          have HSt := Lib.hid (fun W' (hb : Below V8.heap.size V8 W') => State_holdE _ b _ W' (P8.out.keep hb))
          go_wp2_with fail
          refine wp_region_ext (by kernel_rfl) (by kernel_rfl) ?_
          intro Y hY
          obtain rfl : Y = V8 := hY.out
          clear hY
          have y0 := ext_cell (A13.out.at 0 rfl)
          have y1 := ext_cell (A13.out.at 1 rfl)
          have y2 := ext_cell (A13.out.at 2 rfl)
          have y3 := ext_cell (A13.out.at 3 rfl)
          have y4 := ext_cell (A13.out.at 4 rfl)
          have y5 := ext_cell (A13.out.at 5 rfl)
          have y6 := ext_cell (A13.out.at 6 rfl)
          have y7 := ext_cell (A13.out.at 7 rfl)
          have y8 := ext_cell (A13.out.at 8 rfl)
          have hEx := Lib.hid (fun q => ext_below Y q)
          repeat (go_big_quiet_step ((first
            | (go_at_call 18; with_reducible exact ext_of (HSt.out _ (hEx.out _))))))
          refine wpQuiet_nil ?_
          intro w9 hw9
          have h9 : Below Y.heap.size Y w9 := by obtain ⟨p9, rfl⟩ := hw9; exact ext_below Y p9
          have B9 := Lib.hid (B8.out.trans (h9.mono (SZ.out _ B8.out)))
          clear hw9 h9 hEx y0 y1 y2 y3 y4 y5 y6 y7 y8 HSt
          go_wp2_with fail
          go_ret
          exact ⟨rfl, by rw [HB.out]; exact B9.out⟩))
end Go.Proofs.Ythpkebcedaakhaa.Dma
