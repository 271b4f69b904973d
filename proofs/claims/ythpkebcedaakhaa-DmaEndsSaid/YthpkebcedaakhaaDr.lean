/- The document's engine: let, Of, Read, Write, Next, Told, Line. -/
import Derived.Test.YthpkebcedaakhaaDa
import Derived.BigQuiet
import Derived.BigRegion
namespace Go.Proofs.Ythpkebcedaakhaa.Dma
open Go.RowKit Go.Maps Fifo Orow
set_option linter.unusedVariables false

theorem ret_u32 {a b : Int} (h : a = b) : Ending.returned (.int .u32 a) = .returned (.int .u32 b) := by rw [h]
theorem ret_bool {x y : Bool} (h : x = y) : Ending.returned (.bool x) = .returned (.bool y) := by rw [h]
theorem rbit_any (b : Bool) (v : Int) (w : World) : Calls Try.prog 29 #[.bool b, .int .u32 v] w fun e w' => e = .returned (.int .u32 (bitV b v)) ∧ w = w' := by
  cases b
  all_goals
    go_enter Try.func29, Try.ntmps29
    go_wp2_with fail
    go_ret
    exact ⟨rfl, rfl⟩
/-- The engine's cells; of what was there nothing has turned but its block. -/
def BO (w0 w : World) (r : Nat) (l : List Value) : Prop := Blk w r 31 l ∧ Only (fun j => j = r) w0 w
theorem BO.of {w : World} {r : Nat} {l : List Value} (h : Blk w r 31 l) : BO w w r l := ⟨h, Only.refl _ _⟩
theorem BO.set {w0 w : World} {r : Nat} {l : List Value} (h : BO w0 w r l) (k : Nat) (v : Value) : BO w0 (w.setCell ⟨r, k, none⟩ v) r (l.set k v) := ⟨h.1.set k v, h.2.setCell (p := ⟨r, k, none⟩) rfl v⟩
theorem rlet_any (r : Nat) (s : En) (w : World) (h : Blk w r 31 (cellsE s)) :
    Calls Try.prog 50 #[.pointer (some ⟨r, 0, none⟩)] w fun e w' => e = .returned (.tuple #[]) ∧ Blk w' r 31 (cellsE ({ s with has := false, H := 0 })) ∧ Only (fun j => j = r) w w' := by
  have c4 := h.at 4 rfl
  have f4 := h.frozen 4
  have c3 := h.at 3 rfl
  have f3 := h.frozen 3
  have R := Lib.hid (show Blk _ r 31 (cellsE { s with has := false, H := 0 }) from ((h.set 4 (.bool false)).set 3 (.int .u32 0)))
  clear h
  go_enter Try.func50, Try.ntmps50
  go_wp2_with fail
  go_end0
  exact ⟨rfl, R.out, (((Only.refl (fun j => j = r) w).setCell (p := ⟨r, 4, none⟩) rfl _).setCell (p := ⟨r, 3, none⟩) rfl _)⟩
theorem rOf_any (s : En) (w : World) : Calls Try.prog 9 #[stE s] w fun e w' => (∃ r, e = .returned (.pointer (some ⟨r, 0, none⟩)) ∧ Blk w' r 31 (cellsE (ofE s)) ∧ w.heap.size ≤ r) ∧ Below w.heap.size w w' := by
  obtain ⟨F, T, L, H, has, busy, den, don, cal⟩ := s
  have hb : Below w.heap.size w w := Below.refl _ _
  cases busy
  · have e : ∀ has, ofE ⟨F, T, L, H, has, false, den, don, cal⟩ = ⟨F, T, L, 0, false, false, den, don, cal⟩ := fun has => by cases has <;> simp [ofE]
    cases has
    all_goals
      rw [e]
      clear e
      go_enter Try.func9, Try.ntmps9
      go_wp2_with fail
      go_ret
      exact ⟨⟨_, rfl, Blk.new w 31 (cellsE ⟨F, T, L, 0, false, false, den, don, cal⟩), Nat.le_refl _⟩, hb.alloc (Nat.le_refl _) _⟩
  · by_cases hl : 0 < L
    · have d : decide (0 < L) = true := decide_eq_true hl
      have e : ∀ has, ofE ⟨F, T, L, H, has, true, den, don, cal⟩ = ⟨F, T, L, if has then H else 0, has, true, den, don, cal⟩ := fun has => by cases has <;> simp [ofE, hl]
      cases has
      all_goals
        rw [e]
        clear hl e
        go_enter Try.func9, Try.ntmps9
        go_wp2_with fail
        go_ret
        exact ⟨⟨_, rfl, Blk.new w 31 (cellsE ⟨F, T, L, _, _, true, den, don, cal⟩), Nat.le_refl _⟩, hb.alloc (Nat.le_refl _) _⟩
    · have d : decide (0 < L) = false := decide_eq_false hl
      have e : ∀ has, ofE ⟨F, T, L, H, has, true, den, don, cal⟩ = ⟨F, T, L, 0, false, false, den, don, cal⟩ := fun has => by cases has <;> simp [ofE, hl]
      cases has
      all_goals
        rw [e]
        clear hl e
        go_enter Try.func9, Try.ntmps9
        go_wp2_with fail
        go_ret
        exact ⟨⟨_, rfl, Blk.new w 31 (cellsE ⟨F, T, L, 0, false, false, den, don, cal⟩), Nat.le_refl _⟩, hb.alloc (Nat.le_refl _) _⟩
theorem reg_cases5 (reg : Int) : reg = 0 ∨ reg = 1 ∨ reg = 2 ∨ reg = 3 ∨ reg = 4 ∨ (¬ reg = 0 ∧ ¬ reg = 1 ∧ ¬ reg = 2 ∧ ¬ reg = 3 ∧ ¬ reg = 4) := by omega
theorem bit_b (b : Bool) (x : Int) (hx : 0 ≤ x) : 0 ≤ bitV b x ∧ bitV b x ≤ x := by cases b <;> simp [bitV] <;> omega
theorem rRead_any (r : Nat) (s : En) (reg : Int) (w : World) (h : Blk w r 31 (cellsE s)) :
    Calls Try.prog 13 #[.pointer (some ⟨r, 0, none⟩), .int .i64 reg] w fun e w' => e = .returned (.int .u32 (readE s reg)) ∧ Below w.heap.size w w' := by
  have c0 := h.at 0 rfl
  have c1 := h.at 1 rfl
  have c2 := h.at 2 rfl
  rcases reg_cases5 reg with rfl | rfl | rfl | rfl | rfl | ⟨h0, h1, h2, h3, h4⟩
  · clear h
    go_enter Try.func13, Try.ntmps13
    go_wp2_with fail
    go_ret
    exact ⟨rfl, Below.refl _ _⟩
  · clear h
    go_enter Try.func13, Try.ntmps13
    go_wp2_with fail
    go_ret
    exact ⟨rfl, Below.refl _ _⟩
  · clear h
    go_enter Try.func13, Try.ntmps13
    go_wp2_with fail
    go_ret
    exact ⟨rfl, Below.refl _ _⟩
  · have c5 := h.at 5 rfl
    have c6 := h.at 6 rfl
    have c7 := h.at 7 rfl
    have c8 := h.at 8 rfl
    have B := fun p W => rbit_any s.busy 1 (ext W p)
    have D := fun p W => rbit_any s.den 2 (ext W p)
    have O := fun p W => rbit_any s.don 4 (ext W p)
    have A := fun p W => rbit_any s.cal 256 (ext W p)
    have b1 := bit_b s.busy 1 (by omega)
    have b2 := bit_b s.den 2 (by omega)
    have b3 := bit_b s.don 4 (by omega)
    have b4 := bit_b s.cal 256 (by omega)
    rw [show readE s 3 = bitV s.busy 1 + bitV s.den 2 + bitV s.don 4 + bitV s.cal 256 from rfl]
    obtain ⟨x1, hx1⟩ : ∃ x, bitV s.busy 1 = x := ⟨_, rfl⟩
    obtain ⟨x2, hx2⟩ : ∃ x, bitV s.den 2 = x := ⟨_, rfl⟩
    obtain ⟨x3, hx3⟩ : ∃ x, bitV s.don 4 = x := ⟨_, rfl⟩
    obtain ⟨x4, hx4⟩ : ∃ x, bitV s.cal 256 = x := ⟨_, rfl⟩
    rw [hx1] at B b1
    rw [hx2] at D b2
    rw [hx3] at O b3
    rw [hx4] at A b4
    rw [hx1, hx2, hx3, hx4]
    have e1 : IntKind.u32.wrap (x1 + x2) = x1 + x2 := IntWalk.u32_in _ (by omega)
    have e2 : IntKind.u32.wrap (x1 + x2 + x3) = x1 + x2 + x3 := IntWalk.u32_in _ (by omega)
    have e3 : IntKind.u32.wrap (x1 + x2 + x3 + x4) = x1 + x2 + x3 + x4 := IntWalk.u32_in _ (by omega)
    obtain ⟨y1, hy1⟩ : ∃ y, s.busy = y := ⟨_, rfl⟩
    obtain ⟨y2, hy2⟩ : ∃ y, s.den = y := ⟨_, rfl⟩
    obtain ⟨y3, hy3⟩ : ∃ y, s.don = y := ⟨_, rfl⟩
    obtain ⟨y4, hy4⟩ : ∃ y, s.cal = y := ⟨_, rfl⟩
    simp only [hy1] at c5 B
    simp only [hy2] at c6 D
    simp only [hy3] at c7 O
    simp only [hy4] at c8 A
    clear h hx1 hx2 hx3 hx4 hy1 hy2 hy3 hy4 c0 c1 c2 b1 b2 b3 b4
    go_enter Try.func13, Try.ntmps13
    go_wp2_with fail
    refine wp_region_ext (by kernel_rfl) (by kernel_rfl) ?_
    intro W hW
    obtain rfl : W = w := hW.out
    clear hW
    have d5 := fun p => ext_cell c5 p
    have d6 := fun p => ext_cell c6 p
    have d7 := fun p => ext_cell c7 p
    have d8 := fun p => ext_cell c8 p
    clear c5 c6 c7 c8
    repeat (go_big_quiet_step ((go_at_call 29; first | with_reducible exact ext_same (B _ _) | with_reducible exact ext_same (D _ _) | with_reducible exact ext_same (O _ _) | with_reducible exact ext_same (A _ _))))
    refine wpQuiet_nil ?_
    intro w' hw'
    obtain ⟨p, rfl⟩ := hw'
    go_wp2_with fail
    go_ret
    exact ⟨rfl, ext_below W p⟩
  · clear h
    go_enter Try.func13, Try.ntmps13
    go_wp2_with fail
    go_ret
    exact ⟨rfl, Below.refl _ _⟩
  · rw [show readE s reg = 0 by unfold readE; rw [if_neg h0, if_neg h1, if_neg h2, if_neg h3]]
    have g0 : (reg == 0) = false := by simpa using h0
    have g1 : (reg == 1) = false := by simpa using h1
    have g2 : (reg == 2) = false := by simpa using h2
    have g3 : (reg == 3) = false := by simpa using h3
    clear h
    go_enter Try.func13, Try.ntmps13
    go_wp2_with fail
    go_ret
    exact ⟨rfl, Below.refl _ _⟩
theorem rctrl_any (r : Nat) (s : En) (v : Int) (w : World) (hv : 0 ≤ v ∧ v < 4294967296) (h : Blk w r 31 (cellsE s)) :
    Calls Try.prog 31 #[.pointer (some ⟨r, 0, none⟩), .int .u32 v] w fun e w' => e = .returned (.tuple #[]) ∧ Blk w' r 31 (cellsE (ctrlE s v)) ∧ Only (fun j => j = r) w w' := by
  have v0 := hv.1
  have v1 := hv.2
  have t1 : Int.tmod v 2 = v % 2 := Int.tmod_eq_emod_of_nonneg v0
  have t2 : Int.tmod (v / 256) 2 = v / 256 % 2 := Int.tmod_eq_emod_of_nonneg (by omega)
  obtain ⟨cb, hcb⟩ : ∃ b, (v / 256 % 2 == 1) = b := ⟨_, rfl⟩
  have ecb : decide (v / 256 % 2 = 1) = cb := by rw [← hcb]; exact (Bool.beq_eq_decide_eq _ _).symm
  unfold ctrlE
  rw [ecb]
  obtain ⟨F, T, L, H, has, busy, den, don, cal⟩ := s
  by_cases hz : v % 2 = 0
  · rw [if_pos hz]
    have d : (v % 2 == 0) = true := by simpa using hz
    have R := Lib.hid (show BO w _ r (cellsE ⟨F, T, L, H, has, false, den, don, cb⟩) from ((BO.of h).set 8 (.bool cb)).set 5 (.bool false))
    have c8 := h.at 8 rfl
    have c5 := h.at 5 rfl
    have f8 := h.frozen 8
    have f5 := h.frozen 5
    clear hz ecb h
    go_enter Try.func31, Try.ntmps31
    go_wp2_with fail
    refine calls_letter ?_
    intro W hW
    have R1 := Lib.hid (show BO w W r (cellsE ⟨F, T, L, H, has, false, den, don, cb⟩) by rw [hW.out]; exact R.out)
    clear hW R
    refine (rlet_any r _ W R1.out.1).mono ?_
    rintro e w2 ⟨rfl, k1, k2⟩
    have R2 := Lib.hid (show BO w w2 r _ from And.intro k1 (R1.out.2.trans k2))
    clear k1 k2
    go_wp2_with fail
    refine bodyPost_ret (results_none rfl _ _ _) rfl ?_
    exact ⟨rfl, R2.out⟩
  · have d : (v % 2 == 0) = false := by simpa using hz
    rw [if_neg hz]
    clear hz ecb
    cases busy
    · rw [if_neg (show ¬ (false = true) by decide)]
      have R := Lib.hid (show BO w _ r (cellsE ⟨F, T, L, H, has, false, den, don, cb⟩) from (BO.of h).set 8 (.bool cb))
      have c8 := h.at 8 rfl
      have c5 := h.at 5 rfl
      have f8 := h.frozen 8
      clear h
      by_cases hl : 0 < L
      · have d3 : decide (0 < L) = true := decide_eq_true hl
        rw [if_pos (show 0 < (⟨F, T, L, H, has, false, den, don, cal⟩ : En).L from hl)]
        clear hl
        go_enter Try.func31, Try.ntmps31
        go_wp2_with fail
        refine calls_letter ?_
        intro W hW
        have R1 := Lib.hid (show BO w W r (cellsE ⟨F, T, L, H, has, false, den, don, cb⟩) by rw [hW.out]; exact R.out)
        clear hW R c5 c8 f8
        refine (rlet_any r _ W R1.out.1).mono ?_
        rintro e w2 ⟨rfl, k1, k2⟩
        have R2 := Lib.hid (show BO w w2 r _ from And.intro k1 (R1.out.2.trans k2))
        have c2 := k1.at 2 rfl
        have c5 := k1.at 5 rfl
        have f5 := k1.frozen 5
        have c7 := k1.at 7 rfl
        have f7 := k1.frozen 7
        clear k1 k2
        have R3 := Lib.hid (show BO w _ r (cellsE ⟨F, T, L, 0, false, true, den, don, cb⟩) from BO.set R2.out 5 (.bool true))
        go_wp2_with fail
        go_end0
        exact ⟨rfl, R3.out⟩
      · have d3 : decide (0 < L) = false := decide_eq_false hl
        rw [if_neg (show ¬ 0 < (⟨F, T, L, H, has, false, den, don, cal⟩ : En).L from hl)]
        clear hl
        go_enter Try.func31, Try.ntmps31
        go_wp2_with fail
        refine calls_letter ?_
        intro W hW
        have R1 := Lib.hid (show BO w W r (cellsE ⟨F, T, L, H, has, false, den, don, cb⟩) by rw [hW.out]; exact R.out)
        clear hW R c5 c8 f8
        refine (rlet_any r _ W R1.out.1).mono ?_
        rintro e w2 ⟨rfl, k1, k2⟩
        have R2 := Lib.hid (show BO w w2 r _ from And.intro k1 (R1.out.2.trans k2))
        have c2 := k1.at 2 rfl
        have c5 := k1.at 5 rfl
        have f5 := k1.frozen 5
        have c7 := k1.at 7 rfl
        have f7 := k1.frozen 7
        clear k1 k2
        have R3 := Lib.hid (show BO w _ r (cellsE ⟨F, T, L, 0, false, false, den, true, cb⟩) from BO.set R2.out 7 (.bool true))
        go_wp2_with fail
        go_end0
        exact ⟨rfl, R3.out⟩
    · rw [if_pos rfl]
      have R := Lib.hid (show BO w _ r (cellsE ⟨F, T, L, H, has, true, den, don, cb⟩) from (BO.of h).set 8 (.bool cb))
      have c8 := h.at 8 rfl
      have c5 := h.at 5 rfl
      have f8 := h.frozen 8
      clear h
      go_enter Try.func31, Try.ntmps31
      go_wp2_with fail
      refine bodyPost_ret (results_none rfl _ _ _) rfl ?_
      exact ⟨rfl, R.out⟩
theorem rWrite_0 (r : Nat) (s : En) (v : Int) (w : World) (h : Blk w r 31 (cellsE s)) :
    Calls Try.prog 15 #[.pointer (some ⟨r, 0, none⟩), .int .i64 0, .int .u32 v] w fun e w' => e = .returned (.tuple #[]) ∧ Blk w' r 31 (cellsE (writeE s 0 v)) ∧ Only (fun j => j = r) w w' := by
  obtain ⟨F, T, L, H, has, busy, den, don, cal⟩ := s
  cases busy
  · have R := Lib.hid (show BO w _ r (cellsE ⟨v, T, L, H, has, false, den, don, cal⟩) from (BO.of h).set 0 (.int .u32 v))
    have c5 := h.at 5 rfl
    have c0 := h.at 0 rfl
    have f0 := h.frozen 0
    clear h
    go_enter Try.func15, Try.ntmps15
    go_wp2_with fail
    first | go_end0 | refine bodyPost_ret (results_none rfl _ _ _) rfl ?_
    exact ⟨rfl, R.out⟩
  · have R := Lib.hid h
    have c5 := h.at 5 rfl
    clear h
    go_enter Try.func15, Try.ntmps15
    go_wp2_with fail
    first | go_end0 | refine bodyPost_ret (results_none rfl _ _ _) rfl ?_
    exact ⟨rfl, R.out, Only.refl _ _⟩
theorem rWrite_1 (r : Nat) (s : En) (v : Int) (w : World) (h : Blk w r 31 (cellsE s)) :
    Calls Try.prog 15 #[.pointer (some ⟨r, 0, none⟩), .int .i64 1, .int .u32 v] w fun e w' => e = .returned (.tuple #[]) ∧ Blk w' r 31 (cellsE (writeE s 1 v)) ∧ Only (fun j => j = r) w w' := by
  obtain ⟨F, T, L, H, has, busy, den, don, cal⟩ := s
  cases busy
  · have R := Lib.hid (show BO w _ r (cellsE ⟨F, v, L, H, has, false, den, don, cal⟩) from (BO.of h).set 1 (.int .u32 v))
    have c5 := h.at 5 rfl
    have c1 := h.at 1 rfl
    have f1 := h.frozen 1
    clear h
    go_enter Try.func15, Try.ntmps15
    go_wp2_with fail
    first | go_end0 | refine bodyPost_ret (results_none rfl _ _ _) rfl ?_
    exact ⟨rfl, R.out⟩
  · have R := Lib.hid h
    have c5 := h.at 5 rfl
    clear h
    go_enter Try.func15, Try.ntmps15
    go_wp2_with fail
    first | go_end0 | refine bodyPost_ret (results_none rfl _ _ _) rfl ?_
    exact ⟨rfl, R.out, Only.refl _ _⟩
theorem rWrite_2 (r : Nat) (s : En) (v : Int) (w : World) (h : Blk w r 31 (cellsE s)) :
    Calls Try.prog 15 #[.pointer (some ⟨r, 0, none⟩), .int .i64 2, .int .u32 v] w fun e w' => e = .returned (.tuple #[]) ∧ Blk w' r 31 (cellsE (writeE s 2 v)) ∧ Only (fun j => j = r) w w' := by
  obtain ⟨F, T, L, H, has, busy, den, don, cal⟩ := s
  cases busy
  · have R := Lib.hid (show BO w _ r (cellsE ⟨F, T, v, H, has, false, den, don, cal⟩) from (BO.of h).set 2 (.int .u32 v))
    have c5 := h.at 5 rfl
    have c2 := h.at 2 rfl
    have f2 := h.frozen 2
    clear h
    go_enter Try.func15, Try.ntmps15
    go_wp2_with fail
    first | go_end0 | refine bodyPost_ret (results_none rfl _ _ _) rfl ?_
    exact ⟨rfl, R.out⟩
  · have R := Lib.hid h
    have c5 := h.at 5 rfl
    clear h
    go_enter Try.func15, Try.ntmps15
    go_wp2_with fail
    first | go_end0 | refine bodyPost_ret (results_none rfl _ _ _) rfl ?_
    exact ⟨rfl, R.out, Only.refl _ _⟩
theorem rWrite_3 (r : Nat) (s : En) (v : Int) (w : World) (hv : 0 ≤ v ∧ v < 4294967296) (h : Blk w r 31 (cellsE s)) :
    Calls Try.prog 15 #[.pointer (some ⟨r, 0, none⟩), .int .i64 3, .int .u32 v] w fun e w' => e = .returned (.tuple #[]) ∧ Blk w' r 31 (cellsE (writeE s 3 v)) ∧ Only (fun j => j = r) w w' := by
  have C := Lib.hid (rctrl_any r s v w hv h)
  rw [show writeE s 3 v = ctrlE s v from rfl]
  clear h hv
  go_enter Try.func15, Try.ntmps15
  go_wp2_with fail
  refine C.out.mono ?_
  rintro e w1 ⟨rfl, k1, k2⟩
  have R := Lib.hid (And.intro k1 k2)
  clear k1 k2
  go_wp2_with fail
  first | go_end0 | refine bodyPost_ret (results_none rfl _ _ _) rfl ?_
  exact ⟨rfl, R.out⟩
theorem rWrite_4 (r : Nat) (s : En) (v : Int) (w : World) (h : Blk w r 31 (cellsE s)) :
    Calls Try.prog 15 #[.pointer (some ⟨r, 0, none⟩), .int .i64 4, .int .u32 v] w fun e w' => e = .returned (.tuple #[]) ∧ Blk w' r 31 (cellsE (writeE s 4 v)) ∧ Only (fun j => j = r) w w' := by
  rw [show writeE s 4 v = { s with den := false, don := false } from rfl]
  have R := Lib.hid (show BO w _ r (cellsE { s with den := false, don := false }) from ((BO.of h).set 6 (.bool false)).set 7 (.bool false))
  have c6 := h.at 6 rfl
  have c7 := h.at 7 rfl
  have f6 := h.frozen 6
  have f7 := h.frozen 7
  clear h
  go_enter Try.func15, Try.ntmps15
  go_wp2_with fail
  first | go_end0 | refine bodyPost_ret (results_none rfl _ _ _) rfl ?_
  exact ⟨rfl, R.out⟩
theorem rWrite_5 (r : Nat) (s : En) (reg v : Int) (w : World) (h0 : ¬ reg = 0) (h1 : ¬ reg = 1) (h2 : ¬ reg = 2) (h3 : ¬ reg = 3) (h4 : ¬ reg = 4) :
    Calls Try.prog 15 #[.pointer (some ⟨r, 0, none⟩), .int .i64 reg, .int .u32 v] w fun e w' => e = .returned (.tuple #[]) ∧ w = w' := by
  have g0 : (reg == 0) = false := by simpa using h0
  have g1 : (reg == 1) = false := by simpa using h1
  have g2 : (reg == 2) = false := by simpa using h2
  have g3 : (reg == 3) = false := by simpa using h3
  have g4 : (reg == 4) = false := by simpa using h4
  go_enter Try.func15, Try.ntmps15
  go_wp2_with fail
  first | go_end0 | refine bodyPost_ret (results_none rfl _ _ _) rfl ?_
  exact ⟨rfl, rfl⟩
theorem rWrite_any (r : Nat) (s : En) (reg v : Int) (w : World) (hv : 0 ≤ v ∧ v < 4294967296) (h : Blk w r 31 (cellsE s)) :
    Calls Try.prog 15 #[.pointer (some ⟨r, 0, none⟩), .int .i64 reg, .int .u32 v] w fun e w' => e = .returned (.tuple #[]) ∧ Blk w' r 31 (cellsE (writeE s reg v)) ∧ Only (fun j => j = r) w w' := by
  rcases reg_cases5 reg with rfl | rfl | rfl | rfl | rfl | ⟨h0, h1, h2, h3, h4⟩
  · exact rWrite_0 r s v w h
  · exact rWrite_1 r s v w h
  · exact rWrite_2 r s v w h
  · exact rWrite_3 r s v w hv h
  · exact rWrite_4 r s v w h
  · refine (rWrite_5 r s reg v w h0 h1 h2 h3 h4).mono ?_
    rintro e w' ⟨rfl, rfl⟩
    rw [show writeE s reg v = s by unfold writeE; rw [if_neg h0, if_neg h1, if_neg h2, if_neg h3, if_neg h4]]
    exact ⟨rfl, h, Only.refl _ _⟩
theorem rLine_any (r : Nat) (s : En) (w : World) (h : Blk w r 31 (cellsE s)) :
    Calls Try.prog 26 #[.pointer (some ⟨r, 0, none⟩)] w fun e w' => e = .returned (.bool (lineE s)) ∧ w = w' := by
  obtain ⟨F, T, L, H, has, busy, den, don, cal⟩ := s
  have c6 := h.at 6 rfl
  have c7 := h.at 7 rfl
  have c8 := h.at 8 rfl
  clear h
  cases cal <;> cases den
  all_goals
    go_enter Try.func26, Try.ntmps26
    go_wp2_with fail
    go_ret
    exact ⟨rfl, rfl⟩
theorem rNext_idle (r : Nat) (s : En) (world : Int) (w : World) (h : Blk w r 31 (cellsE s)) (hb : s.busy = false) :
    Calls Try.prog 32 #[.pointer (some ⟨r, 0, none⟩), .int .i64 world] w fun e w' => e = .returned (.tuple #[accV 0 false 0 0 0, .bool false]) ∧ Below w.heap.size w w' := by
  have c5 := h.at 5 rfl
  rw [hb] at c5
  have a5 := fun o => cell_keep ((Below.refl w.heap.size w).alloc (Nat.le_refl _) o) c5
  clear h hb
  obtain ⟨g, hg⟩ : ∃ g, w.heap.size = g := ⟨_, rfl⟩
  have HG := Lib.hid hg
  go_enter Try.func32, Try.ntmps32
  go_wp2_with (with_reducible refine at_store _ _ _ rfl ?_)
  refine Lib.hid ?_
  have hnew := Blk.new w 53 [.int .i64 0, .bool false, .int .u32 0, .int .i64 0, .int .u32 0]
  rw [hg] at hnew
  refine store_all rfl _ _ _ rfl g [.int .i64 0, .bool false, .int .u32 0, .int .i64 0, .int .u32 0] rfl rfl _ _ hnew (by kernel_rfl) rfl (by simp [Value.oneCell']) ?_
  intro X hX hoX
  have hal := (Below.refl w.heap.size w).alloc (Nat.le_refl _) (.cells #[.int .i64 0, .bool false, .int .u32 0, .int .i64 0, .int .u32 0] 53)
  have BX := Lib.hid (show Below w.heap.size w X from hal.trans (hoX.below hal.size (fun j e => by rw [e, ← HG.out]; exact Nat.le_refl _)))
  have r0 := hX.at 0 rfl
  have r1 := hX.at 1 rfl
  have r2 := hX.at 2 rfl
  have r3 := hX.at 3 rfl
  have r4 := hX.at 4 rfl
  clear hX hoX hal hnew
  go_wp2_with fail
  refine bodyPost_ret (v := .tuple #[.agg #[.int .i64 0, .bool false, .int .u32 0, .int .i64 0, .int .u32 0], .bool false]) ?_ rfl ⟨rfl, BX.out⟩
  simp [results, Try.results32, go_sem, r0, r1, r2, r3, r4]
set_option maxHeartbeats 1000000 in
theorem rNext_busy (r : Nat) (s : En) (world : Int) (w : World) (h : Blk w r 31 (cellsE s)) (hb : s.busy = true) :
    Calls Try.prog 32 #[.pointer (some ⟨r, 0, none⟩), .int .i64 world] w fun e w' => e = .returned (.tuple #[nextE s world, .bool true]) ∧ Below w.heap.size w w' := by
  obtain ⟨F, T, L, H, has, busy, den, don, cal⟩ := s
  have hb : busy = true := hb
  subst hb
  have HB := Lib.hid h
  clear h
  obtain ⟨g, hg⟩ : ∃ g, w.heap.size = g := ⟨_, rfl⟩
  have HG := Lib.hid hg
  have c5 := HB.out.at 5 rfl
  have c4 := HB.out.at 4 rfl
  have c0 := HB.out.at 0 rfl
  have a5 := fun o => cell_keep ((Below.refl w.heap.size w).alloc (Nat.le_refl _) o) c5
  have a4 := fun o => cell_keep ((Below.refl w.heap.size w).alloc (Nat.le_refl _) o) c4
  have a0 := fun o => cell_keep ((Below.refl w.heap.size w).alloc (Nat.le_refl _) o) c0
  cases has
  · rw [show nextE ⟨F, T, L, H, false, true, den, don, cal⟩ world = accV world false F 4 0 from rfl]
    go_enter Try.func32, Try.ntmps32
    go_wp2_with (with_reducible refine at_store _ _ _ rfl ?_)
    refine Lib.hid ?_
    have hnew := Blk.new w 53 [.int .i64 0, .bool false, .int .u32 0, .int .i64 0, .int .u32 0]
    rw [hg] at hnew
    refine store_all rfl _ _ _ rfl g [.int .i64 world, .bool false, .int .u32 F, .int .i64 4, .int .u32 0] rfl rfl _ _ hnew (by kernel_rfl) rfl (by simp [Value.oneCell']) ?_
    intro X hX hoX
    have hal := (Below.refl w.heap.size w).alloc (Nat.le_refl _) (.cells #[.int .i64 0, .bool false, .int .u32 0, .int .i64 0, .int .u32 0] 53)
    have BX := Lib.hid (show Below w.heap.size w X from hal.trans (hoX.below hal.size (fun j e => by rw [e, ← HG.out]; exact Nat.le_refl _)))
    have r0 := hX.at 0 rfl
    have r1 := hX.at 1 rfl
    have r2 := hX.at 2 rfl
    have r3 := hX.at 3 rfl
    have r4 := hX.at 4 rfl
    clear hX hoX hal hnew
    go_wp2_with fail
    refine bodyPost_ret (v := .tuple #[.agg #[.int .i64 world, .bool false, .int .u32 F, .int .i64 4, .int .u32 0], .bool true]) ?_ rfl ⟨rfl, BX.out⟩
    simp [results, Try.results32, go_sem, r0, r1, r2, r3, r4]
  · rw [show nextE ⟨F, T, L, H, true, true, den, don, cal⟩ world = accV world true T 4 H from rfl]
    go_enter Try.func32, Try.ntmps32
    go_wp2_with fail
    refine code_letter ?_
    intro W hW
    have B := Lib.hid (show Below g w W by rw [hW.out, ← HG.out]; exact (Below.refl _ _).alloc (Nat.le_refl _) _)
    have Z := Lib.hid (show Blk W g 53 [.int .i64 0, .bool false, .int .u32 0, .int .i64 0, .int .u32 0] by rw [hW.out, ← HG.out]; exact Blk.new w _ _)
    have HW := Lib.hid (HB.out.keep (show Below w.heap.size w W by rw [HG.out]; exact B.out))
    clear hW c0 c4 c5 a0 a4 a5 hg
    have c1 := HW.out.at 1 rfl
    have c3 := HW.out.at 3 rfl
    have z0 := Z.out.at 0 rfl
    have f0 := Z.out.frozen 0
    have z1 := Z.out.at 1 rfl
    have f1 := Z.out.frozen 1
    have z2 := Z.out.at 2 rfl
    have f2 := Z.out.frozen 2
    have z3 := Z.out.at 3 rfl
    have f3 := Z.out.frozen 3
    have z4 := Z.out.at 4 rfl
    have f4 := Z.out.frozen 4
    go_region
    refine exit_letter ?_
    intro X hX
    have R := Lib.hid (show Blk X g 53 [.int .i64 world, .bool true, .int .u32 T, .int .i64 4, .int .u32 H] by rw [hX.out]; exact (((((Z.out.set 0 _).set 1 _).set 2 _).set 3 _).set 4 _))
    have BX := Lib.hid (show Below g w X by
      rw [hX.out]
      exact ((((((B.out.setCell (Nat.le_refl _) _).setCell (Nat.le_refl _) _).setCell (Nat.le_refl _) _).setCell (Nat.le_refl _) _).setCell (Nat.le_refl _) _).drew))
    clear hX z0 f0 z1 f1 z2 f2 z3 f3 z4 f4 c1 c3
    have r0 := R.out.at 0 rfl
    have r1 := R.out.at 1 rfl
    have r2 := R.out.at 2 rfl
    have r3 := R.out.at 3 rfl
    have r4 := R.out.at 4 rfl
    go_wp2_with fail
    refine bodyPost_ret (v := .tuple #[accV world true T 4 H, .bool true]) ?_ rfl ⟨rfl, by rw [HG.out]; exact BX.out⟩
    simp [results, Try.results32, go_sem, r0, r1, r2, r3, r4]
end Go.Proofs.Ythpkebcedaakhaa.Dma
