/- Contracts: the document's Decode. -/
import Derived.Test.YtblccnpdcnlhiaaCl
namespace Go.Proofs.Ytblccnpdcnlhiaa.Access
open Go.RowKit Go.Maps Go.ChangeShapes Go.WideShapes Go.ChangeAt Kit Word
set_option linter.unusedVariables false

theorem rDecode_long (a : Option Addr) (n cap : Nat) (w : World) (hn : 12 < n) :
    Calls Try.prog 26 #[.slice a n cap] w fun e w' => e = .returned (.tuple #[acc 0 false 0 0 0, .int .i64 3]) ∧ Below w.heap.size w w' := by
  have d1 : decide ((12 : Int) < (n : Int)) = true := decide_eq_true (by omega)
  have d2 : decide (12 < n) = true := decide_eq_true (by omega)
  go_enter Try.func26, Try.ntmps26
  go_wp2_with fail
  refine bodyPost_ret (v := .tuple #[acc 0 false 0 0 0, .int .i64 3]) ?_ rfl ⟨rfl, by repeat (first | exact (Below.refl _ _).alloc (Nat.le_refl _) _ | refine Below.setCell ?_ (by simp) _)⟩
  simp [results, Try.results26, go_sem]
theorem rDecode_short (a : Option Addr) (n cap : Nat) (w : World) (hn : n < 12) :
    Calls Try.prog 26 #[.slice a n cap] w fun e w' => e = .returned (.tuple #[acc 0 false 0 0 0, .int .i64 4]) ∧ Below w.heap.size w w' := by
  have d1 : decide ((12 : Int) < (n : Int)) = false := decide_eq_false (by omega)
  have d2 : decide (12 < n) = false := decide_eq_false (by omega)
  have d3 : decide ((n : Int) < 12) = true := decide_eq_true (by omega)
  have d4 : decide (n < 12) = true := decide_eq_true (by omega)
  go_enter Try.func26, Try.ntmps26
  go_wp2_with fail
  refine bodyPost_ret (v := .tuple #[acc 0 false 0 0 0, .int .i64 4]) ?_ rfl ⟨rfl, by repeat (first | exact (Below.refl _ _).alloc (Nat.le_refl _) _ | refine Below.setCell ?_ (by simp) _)⟩
  simp [results, Try.results26, go_sem]
theorem rDecode_bad (b off cap : Nat) (c1 c2 c3 : Int) (w : World) (hcap : 12 ≤ cap) (hb : b < w.heap.size) (k1 : w.cell? ⟨b, off + 1, none⟩ = some (.int .u8 c1)) (k2 : w.cell? ⟨b, off + 2, none⟩ = some (.int .u8 c2)) (k3 : w.cell? ⟨b, off + 3, none⟩ = some (.int .u8 c3))
    (h : ¬ (c1 ≤ 5 ∧ c2 = 0 ∧ c3 = 0)) :
    Calls Try.prog 26 #[.slice (some ⟨b, off, none⟩) 12 cap] w fun e w' => e = .returned (.tuple #[acc 0 false 0 0 0, .int .i64 4]) ∧ Below w.heap.size w w' := by
  by_cases h1 : c1 ≤ 5
  · have d1 : decide ((5 : Int) < c1) = false := decide_eq_false (by omega)
    by_cases h2 : c2 = 0
    · have h3 : ¬ c3 = 0 := fun e => h ⟨h1, h2, e⟩
      subst h2
      clear h h1
      go_enter Try.func26, Try.ntmps26
      go_wp2_with fail
      refine bodyPost_ret (v := .tuple #[acc 0 false 0 0 0, .int .i64 4]) ?_ rfl ⟨rfl, by repeat (first | exact (Below.refl _ _).alloc (Nat.le_refl _) _ | refine Below.setCell ?_ (by simp) _)⟩
      simp [results, Try.results26, go_sem]
    · clear h h1
      go_enter Try.func26, Try.ntmps26
      go_wp2_with fail
      refine bodyPost_ret (v := .tuple #[acc 0 false 0 0 0, .int .i64 4]) ?_ rfl ⟨rfl, by repeat (first | exact (Below.refl _ _).alloc (Nat.le_refl _) _ | refine Below.setCell ?_ (by simp) _)⟩
      simp [results, Try.results26, go_sem]
  · have d1 : decide ((5 : Int) < c1) = true := decide_eq_true (by omega)
    clear h h1
    go_enter Try.func26, Try.ntmps26
    go_wp2_with fail
    refine bodyPost_ret (v := .tuple #[acc 0 false 0 0 0, .int .i64 4]) ?_ rfl ⟨rfl, by repeat (first | exact (Below.refl _ _).alloc (Nat.le_refl _) _ | refine Below.setCell ?_ (by simp) _)⟩
    simp [results, Try.results26, go_sem]
theorem Slot5.other {w : World} {b C : Nat} {W : Int} {r : Bool} {A S D : Int} (h : Slot5 w b W r A S D) (hne : b ≠ C) (j : Nat) (v : Value) : Slot5 (w.setCell ⟨C, j, none⟩ v) b W r A S D := by
  have ho := KitBytes.only_set w C j v
  have hb := ho.block b (World.block_lt_of_cell? w _ h.five.c0) hne
  have hf := fun i => World.frozen?_of_block (w := w) (w' := w.setCell ⟨C, j, none⟩ v) (a := ⟨b, i, none⟩) hb
  exact ⟨⟨ho.cell hne h.five.c0, ho.cell hne h.five.c1, ho.cell hne h.five.c2, ho.cell hne h.five.c3, ho.cell hne h.five.c4⟩, (hf 0).trans h.f0, (hf 1).trans h.f1, (hf 2).trans h.f2, (hf 3).trans h.f3, (hf 4).trans h.f4⟩
theorem exit_letter {K : Exit → Act → World → Prop} {e : Exit} {a : Act} {w : World} (h : ∀ W, Hid (W = w) → K e a W) : K e a w := h w (Lib.hid rfl)
theorem calls_letter {P : Program} {f : FuncId} {args : Array Value} {w : World} {Q : Ending → World → Prop} (h : ∀ W, Hid (W = w) → Calls P f args W Q) : Calls P f args w Q := h w (Lib.hid rfl)
set_option maxRecDepth 100000 in
set_option maxHeartbeats 2000000 in
theorem rDecode_in (b off cap : Nat) (c0 c1 x y s : Int) (r rb : Bool) (w : World) (hcap : 12 ≤ cap) (hb : b < w.heap.size) (h0 : 0 ≤ c0 ∧ c0 < 256) (h1 : 0 ≤ c1 ∧ c1 ≤ 5) (k0 : w.cell? ⟨b, off, none⟩ = some (.int .u8 c0)) (k1 : w.cell? ⟨b, off + 1, none⟩ = some (.int .u8 c1)) (k2 : w.cell? ⟨b, off + 2, none⟩ = some (.int .u8 0)) (k3 : w.cell? ⟨b, off + 3, none⟩ = some (.int .u8 0))
    (hr : (c1 % 2 == 1) = r) (hs : max (c1 / 2 * 2) 1 = s)
    (A : ∀ w', Below w.heap.size w w' → Calls Try.prog 41 #[.slice (some ⟨b, off + 4, none⟩) 4 (cap - 4)] w' fun e w'' => e = .returned (.tuple #[.int .u32 x, .bool true]) ∧ w' = w'')
    (D : ∀ w', Below w.heap.size w w' → Calls Try.prog 41 #[.slice (some ⟨b, off + 8, none⟩) 4 (cap - 8)] w' fun e w'' => e = .returned (.tuple #[.int .u32 y, .bool true]) ∧ w' = w'')
    (R : ∀ w, Calls Try.prog 21 #[acc c0 r x s y] w fun e w' => e = .returned (.bool rb) ∧ Below w.heap.size w w') :
    Calls Try.prog 26 #[.slice (some ⟨b, off, none⟩) 12 cap] w fun e w' => e = .returned (.tuple #[if rb then acc c0 r x s y else acc 0 false 0 0 0, .int .i64 (if rb then 0 else 4)]) ∧ Below w.heap.size w w' := by
  have d1 : decide ((5 : Int) < c1) = false := decide_eq_false (by omega)
  have hh := Lib.hid h1
  have Hr := Lib.hid hr
  have Hs := Lib.hid hs
  clear h1 hr hs
  go_enter Try.func26, Try.ntmps26
  go_wp2_with fail
  refine code_letter ?_
  intro W hW
  have S0 := Lib.hid (show Slot5 W w.heap.size 0 false 0 0 0 by rw [hW.out]; exact slot5_new w 0 false 0 0 0 _)
  have hbW : Below w.heap.size w W := by rw [hW.out]; exact (Below.refl _ _).alloc (Nat.le_refl _) _
  have g0 := cell_keep hbW k0
  have g1 := cell_keep hbW k1
  obtain ⟨Z, hZ⟩ : ∃ Z, w.heap.size = Z := ⟨_, rfl⟩
  rw [hZ] at S0
  rw [hZ]
  have HB := Lib.hid hZ
  have hbl : b < W.heap.size := World.block_lt_of_cell? W _ g0
  have HbW := Lib.hid hbW
  clear hW k0 k1 k2 k3 hbW hb d1 hZ
  have h1 := hh.out
  go_region
  clear h1
  rw [Hr.out, Hs.out]
  refine exit_letter ?_
  intro W3 hW3
  have hb3 : Below W.heap.size W W3 := by rw [hW3.out]; exact ((Below.refl _ _).alloc (Nat.le_refl _) _).drew
  have S3 := Lib.hid (S0.out.keep hb3)
  have T3 := Lib.hid (show Slot5 W3 W.heap.size c0 r 0 s 0 by rw [hW3.out]; exact (slot5_new W c0 r 0 s 0 _).keep (Below.refl _ _).drew)
  have B3 := Lib.hid (HbW.out.trans (hb3.mono HbW.out.size))
  have hCB := HbW.out.size
  have hCZ : Z < W.heap.size := World.block_lt_of_cell? W _ S0.out.five.c0
  obtain ⟨C, hC⟩ : ∃ C, W.heap.size = C := ⟨_, rfl⟩
  rw [hC] at T3 hbl hCZ hCB
  rw [hC]
  clear hW3 hb3 S0 HbW g0 g1 hC
  obtain ⟨⟨q0, q1, q2, q3, q4⟩, f0, f1, f2, f3, f4⟩ := T3.out
  go_wp2_with fail
  refine (A _ B3.out).mono ?_
  rintro e w1 ⟨rfl, rfl⟩
  go_wp2_with fail
  refine (D _ (B3.out.setCell hCB _)).mono ?_
  rintro e w1 ⟨rfl, rfl⟩
  go_wp2_with fail
  refine calls_letter ?_
  intro W4 hW4
  have S4 := Lib.hid (show Slot5 W4 Z 0 false 0 0 0 by rw [hW4.out]; exact (S3.out.other (by omega) 2 _).other (by omega) 4 _)
  have T4 := Lib.hid (show Five W4 C c0 r x s y by rw [hW4.out]; exact ⟨by simp [go_sem, q0], by simp [go_sem, q1], by simp [go_sem, q2], by simp [go_sem, q3], by simp [go_sem, q4]⟩)
  have B4 := Lib.hid (show Below w.heap.size w W4 by rw [hW4.out]; exact (B3.out.setCell hCB _).setCell hCB _)
  clear hW4 S3 T3 B3 q0 q1 q2 q3 q4 f0 f1 f2 f3 f4 A D
  refine (R _).mono ?_
  rintro e W5 ⟨rfl, hb⟩
  have S5 := Lib.hid (S4.out.keep hb)
  have T5 := Lib.hid (T4.out.keep hb)
  have B5 := Lib.hid (B4.out.trans (hb.mono B4.out.size))
  clear hb S4 T4 B4 R
  obtain ⟨⟨k0, k1, k2, k3, k4⟩, f0, f1, f2, f3, f4⟩ := S5.out
  obtain ⟨q0, q1, q2, q3, q4⟩ := T5.out
  cases rb
  · go_wp2_with fail
    refine post_letter ?_
    intro X hX
    have K : Five X Z 0 false 0 0 0 := by rw [hX.out]; exact ⟨by simp [go_sem, k0], by simp [go_sem, k1], by simp [go_sem, k2], by simp [go_sem, k3], by simp [go_sem, k4]⟩
    have HZ : Below w.heap.size w X := by
      rw [hX.out]
      have hZ := B5.out
      have hz := HB.out
      exact ((((hZ.setCell (by simp; omega) _).setCell (by simp; omega) _).setCell (by simp; omega) _).setCell (by simp; omega) _).setCell (by simp; omega) _
    obtain ⟨x0, x1, x2, x3, x4⟩ := K
    clear hX k0 k1 k2 k3 k4
    refine bodyPost_ret (v := .tuple #[acc 0 false 0 0 0, .int .i64 4]) ?_ rfl ⟨rfl, HZ⟩
    simp [results, Try.results26, go_sem, x0, x1, x2, x3, x4]
  · go_wp2_with fail
    refine post_letter ?_
    intro X hX
    have K : Five X Z c0 r x s y := by rw [hX.out]; exact ⟨by simp [go_sem, k0], by simp [go_sem, k1], by simp [go_sem, k2], by simp [go_sem, k3], by simp [go_sem, k4]⟩
    have HZ : Below w.heap.size w X := by
      rw [hX.out]
      have hZ := B5.out
      have hz := HB.out
      exact ((((hZ.setCell (by simp; omega) _).setCell (by simp; omega) _).setCell (by simp; omega) _).setCell (by simp; omega) _).setCell (by simp; omega) _
    obtain ⟨x0, x1, x2, x3, x4⟩ := K
    clear hX k0 k1 k2 k3 k4
    refine bodyPost_ret (v := .tuple #[acc c0 r x s y, .int .i64 0]) ?_ rfl ⟨rfl, HZ⟩
    simp [results, Try.results26, go_sem, x0, x1, x2, x3, x4]

theorem rof_num (g off cap : Nat) (a b c d : Int) (w : World) (k0 : w.cell? ⟨g, off, none⟩ = some (.int .u8 a)) (k1 : w.cell? ⟨g, off + 1, none⟩ = some (.int .u8 b)) (k2 : w.cell? ⟨g, off + 2, none⟩ = some (.int .u8 c)) (k3 : w.cell? ⟨g, off + 3, none⟩ = some (.int .u8 d))
    (h : (0 ≤ a ∧ a < 256) ∧ (0 ≤ b ∧ b < 256) ∧ (0 ≤ c ∧ c < 256) ∧ 0 ≤ d ∧ d < 256) :
    Calls Try.prog 41 #[.slice (some ⟨g, off, none⟩) 4 cap] w fun e w' => e = .returned (.tuple #[.int .u32 (num a b c d), .bool true]) ∧ w = w' :=
  rof_4 g off cap a b c d w k0 h.1.1 h.1.2 k1 h.2.1.1 h.2.1.2 k2 h.2.2.1.1 h.2.2.1.2 k3 h.2.2.2.1 h.2.2.2.2
theorem sz_max {f : Int} (h : 0 ≤ f ∧ f ≤ 5) : max (f / 2 * 2) 1 = szV f := by
  have : f = 0 ∨ f = 1 ∨ f = 2 ∨ f = 3 ∨ f = 4 ∨ f = 5 := by omega
  rcases this with rfl | rfl | rfl | rfl | rfl | rfl <;> rfl
theorem eq_odd {f : Int} : (f % 2 == 1) = decide (f % 2 = 1) := by rw [Bool.eq_iff_iff]; simp
theorem rDecode_any (a : Option Addr) (n cap : Nat) (l : List Int) (W : Int) (r : Bool) (A S D er : Int) (w : World) (hrow : Row .u8 w a n l) (hcap : n ≤ cap) (hd : Dec n l W r A S D er) :
    Calls Try.prog 26 #[.slice a n cap] w fun e w' => e = .returned (.tuple #[acc W r A S D, .int .i64 er]) ∧ Below w.heap.size w w' := by
  rcases hd with ⟨h, rfl, rfl, rfl, rfl, rfl, rfl⟩ | ⟨h, rfl, rfl, rfl, rfl, rfl, rfl⟩ | hd
  · exact rDecode_long a n cap w h
  · exact rDecode_short a n cap w h
  have hn : n = 12 := by rcases hd with h | h <;> exact h.1
  subst hn
  obtain ⟨hl, _, hw, h4⟩ := hrow
  rcases h4 with h4 | ⟨b, off, rfl, hlt, hc⟩
  · omega
  have hb := byte_bd hw
  have hA := fA_bd hb
  have hD := fD_bd hb
  have hT : Tw w b off l := hc
  have ho := ok_in hl hb
  cases hI : inB l
  · have hno : okB l = false := by rw [ho, hI]; rfl
    have hI' : ¬ (l.getD 1 0 ≤ 5 ∧ l.getD 2 0 = 0 ∧ l.getD 3 0 = 0) := by unfold inB at hI; simpa using hI
    rcases hd with ⟨_, _, rfl, rfl, rfl, rfl, rfl, rfl⟩ | ⟨_, h, _⟩
    · exact rDecode_bad b off cap _ _ _ w hcap hlt (hT 1 (by omega)) (hT 2 (by omega)) (hT 3 (by omega)) hI'
    · rw [hno] at h; cases h
  · have hI' : l.getD 1 0 ≤ 5 ∧ l.getD 2 0 = 0 ∧ l.getD 3 0 = 0 := by unfold inB at hI; simpa using hI
    have h5 : 0 ≤ l.getD 1 0 ∧ l.getD 1 0 ≤ 5 := ⟨(hb 1).1, hI'.1⟩
    obtain ⟨rb, hR⟩ : ∃ rb, rightB (fW l) (fr l) (fA l) (fS l) (fD l) = rb := ⟨_, rfl⟩
    have key := rDecode_in b off cap (fW l) (l.getD 1 0) (fA l) (fD l) (fS l) (fr l) rb w hcap hlt (hb 0) h5 (hT 0 (by omega)) (hT 1 (by omega)) (by rw [hT 2 (by omega), hI'.2.1]) (by rw [hT 3 (by omega), hI'.2.2]) eq_odd (sz_max h5)
      (fun w' h => rof_num b (off + 4) (cap - 4) _ _ _ _ w' (hT.keep h 4 (by omega)) (hT.keep h 5 (by omega)) (hT.keep h 6 (by omega)) (hT.keep h 7 (by omega)) ⟨hb 4, hb 5, hb 6, hb 7⟩)
      (fun w' h => rof_num b (off + 8) (cap - 8) _ _ _ _ w' (hT.keep h 8 (by omega)) (hT.keep h 9 (by omega)) (hT.keep h 10 (by omega)) (hT.keep h 11 (by omega)) ⟨hb 8, hb 9, hb 10, hb 11⟩)
      (fun w => rRight_any (fW l) (fr l) (fA l) (fS l) (fD l) rb w hA.1 hA.2 hD.1 hD.2 hR)
    rw [hI, hR, Bool.true_and] at ho
    rcases hd with ⟨_, h, rfl, rfl, rfl, rfl, rfl, rfl⟩ | ⟨_, h, rfl, rfl, rfl, rfl, rfl, rfl⟩
    · rw [h] at ho; subst ho; exact key
    · rw [h] at ho; subst ho; exact key
end Go.Proofs.Ytblccnpdcnlhiaa.Access
