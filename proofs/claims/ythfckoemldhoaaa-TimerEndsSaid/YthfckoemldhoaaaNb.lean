/- The document's timer: Read, Write, Tick, Line. -/
import Derived.Test.YthfckoemldhoaaaNa
import Derived.Test.YthfckoemldhoaaaOw
namespace Go.Proofs.Ythfckoemldhoaaa.Timer
open Go.RowKit Go.Maps Go.ChangeShapes Go.WideShapes Go.ChangeAt Fifo Orow Word
set_option linter.unusedVariables false

abbrev stv (s : St) : Value := .agg #[.int .u32 s.C, .int .u32 s.L, .int .u32 s.K, .int .u32 s.H]
theorem ret_u32 {a b : Int} (h : a = b) : Ending.returned (.int .u32 a) = .returned (.int .u32 b) := by rw [h]
theorem ret_bool {x y : Bool} (h : x = y) : Ending.returned (.bool x) = .returned (.bool y) := by rw [h]
theorem ret_stv {s t : St} (h : s = t) : Ending.returned (stv s) = .returned (stv t) := by rw [h]
theorem reg_cases (reg : Int) : reg = 0 ∨ reg = 1 ∨ reg = 2 ∨ reg = 3 ∨ (¬ reg = 0 ∧ ¬ reg = 1 ∧ ¬ reg = 2 ∧ ¬ reg = 3) := by omega
theorem rRead_any (s : St) (reg : Int) (w : World) :
    Calls Try.prog 20 #[stv s, .int .i64 reg] w fun e w' => e = .returned (.int .u32 (readS s reg)) ∧ Below w.heap.size w w' := by
  obtain ⟨C, L, K, H⟩ := s
  rcases reg_cases reg with rfl | rfl | rfl | rfl | ⟨h0, h1, h2, h3⟩
  · go_enter Try.func20, Try.ntmps20
    go_wp2_with fail
    go_ret
    exact ⟨rfl, (Below.refl _ _).alloc (Nat.le_refl _) _⟩
  · go_enter Try.func20, Try.ntmps20
    go_wp2_with fail
    go_ret
    exact ⟨rfl, (Below.refl _ _).alloc (Nat.le_refl _) _⟩
  · go_enter Try.func20, Try.ntmps20
    go_wp2_with fail
    go_ret
    exact ⟨rfl, (Below.refl _ _).alloc (Nat.le_refl _) _⟩
  · go_enter Try.func20, Try.ntmps20
    go_wp2_with fail
    go_ret
    exact ⟨rfl, (Below.refl _ _).alloc (Nat.le_refl _) _⟩
  · have e : readS ⟨C, L, K, H⟩ reg = 0 := by unfold readS; rw [if_neg h0, if_neg h1, if_neg h2, if_neg h3]
    rw [e]
    have g0 : (reg == 0) = false := by simpa using h0
    have g1 : (reg == 1) = false := by simpa using h1
    have g2 : (reg == 2) = false := by simpa using h2
    have g3 : (reg == 3) = false := by simpa using h3
    go_enter Try.func20, Try.ntmps20
    go_wp2_with fail
    go_ret
    exact ⟨rfl, (Below.refl _ _).alloc (Nat.le_refl _) _⟩
theorem rWrite_any (s : St) (reg v : Int) (w : World) (hv : 0 ≤ v ∧ v < 4294967296) :
    Calls Try.prog 12 #[stv s, .int .i64 reg, .int .u32 v] w fun e w' => e = .returned (stv (writeS s reg v)) ∧ Below w.heap.size w w' := by
  obtain ⟨C, L, K, H⟩ := s
  have hv1 := hv.1
  have hv8 : Int.tmod v 8 = v % 8 := Int.tmod_eq_emod_of_nonneg hv1
  rcases reg_cases reg with rfl | rfl | rfl | rfl | ⟨h0, h1, h2, h3⟩
  · go_enter Try.func12, Try.ntmps12
    go_wp2_with fail
    refine bodyPost_ret (v := stv (writeS ⟨C, L, K, H⟩ 0 v)) ?_ rfl ⟨rfl, ?_⟩
    · simp [results, Try.results12, go_sem, writeS, stv]
    · repeat (first | exact Below.refl _ _ | refine Below.setCell ?_ (by simp) _ | refine Below.alloc ?_ (by simp) _)
  · go_enter Try.func12, Try.ntmps12
    go_wp2_with fail
    refine bodyPost_ret (v := stv (writeS ⟨C, L, K, H⟩ 1 v)) ?_ rfl ⟨rfl, ?_⟩
    · simp [results, Try.results12, go_sem, writeS, stv]
    · repeat (first | exact Below.refl _ _ | refine Below.setCell ?_ (by simp) _ | refine Below.alloc ?_ (by simp) _)
  · go_enter Try.func12, Try.ntmps12
    go_wp2_with fail
    refine bodyPost_ret (v := stv (writeS ⟨C, L, K, H⟩ 2 v)) ?_ rfl ⟨rfl, ?_⟩
    · simp [results, Try.results12, go_sem, writeS, stv]
    · repeat (first | exact Below.refl _ _ | refine Below.setCell ?_ (by simp) _ | refine Below.alloc ?_ (by simp) _)
  · go_enter Try.func12, Try.ntmps12
    go_wp2_with fail
    refine bodyPost_ret (v := stv (writeS ⟨C, L, K, H⟩ 3 v)) ?_ rfl ⟨rfl, ?_⟩
    · simp [results, Try.results12, go_sem, writeS, stv]
    · repeat (first | exact Below.refl _ _ | refine Below.setCell ?_ (by simp) _ | refine Below.alloc ?_ (by simp) _)
  · have e : writeS ⟨C, L, K, H⟩ reg v = ⟨C, L, K, H⟩ := by unfold writeS; rw [if_neg h0, if_neg h1, if_neg h2, if_neg h3]
    rw [e]
    have g0 : (reg == 0) = false := by simpa using h0
    have g1 : (reg == 1) = false := by simpa using h1
    have g2 : (reg == 2) = false := by simpa using h2
    have g3 : (reg == 3) = false := by simpa using h3
    go_enter Try.func12, Try.ntmps12
    go_wp2_with fail
    refine bodyPost_ret (v := stv ⟨C, L, K, H⟩) ?_ rfl ⟨rfl, ?_⟩
    · simp [results, Try.results12, go_sem, stv]
    · repeat (first | exact Below.refl _ _ | refine Below.setCell ?_ (by simp) _ | refine Below.alloc ?_ (by simp) _)
theorem rLine_any (s : St) (w : World) (h : OkS s) :
    Calls Try.prog 21 #[stv s] w fun e w' => e = .returned (.bool (lineS s)) ∧ Below w.heap.size w w' := by
  obtain ⟨C, L, K, H⟩ := s
  have hk : 0 ≤ K := h.k.1
  have e1 : Int.tdiv K 2 = K / 2 := Int.tdiv_eq_ediv_of_nonneg hk
  have hk2 : 0 ≤ K / 2 := by omega
  have e2 : Int.tmod (K / 2) 2 = K / 2 % 2 := Int.tmod_eq_emod_of_nonneg hk2
  by_cases h1 : K / 2 % 2 = 1
  · have g1 : (K / 2 % 2 == 1) = true := by simpa using h1
    have e : lineS ⟨C, L, K, H⟩ = decide (0 < H) := by unfold lineS; rw [decide_eq_decide]; exact ⟨fun h => h.2, fun h => ⟨h1, h⟩⟩
    rw [e]
    clear h1
    go_enter Try.func21, Try.ntmps21
    go_wp2_with fail
    go_ret
    exact ⟨rfl, (Below.refl _ _).alloc (Nat.le_refl _) _⟩
  · have g1 : (K / 2 % 2 == 1) = false := by simpa using h1
    have e : lineS ⟨C, L, K, H⟩ = false := by unfold lineS; exact decide_eq_false (fun h => h1 h.1)
    rw [e]
    clear h1
    go_enter Try.func21, Try.ntmps21
    go_wp2_with fail
    go_ret
    exact ⟨rfl, (Below.refl _ _).alloc (Nat.le_refl _) _⟩
theorem rTick_any (s : St) (w : World) (h : OkS s) :
    Calls Try.prog 14 #[stv s] w fun e w' => e = .returned (stv (tickS s)) ∧ Below w.heap.size w w' := by
  obtain ⟨C, L, K, H⟩ := s
  have hk : 0 ≤ K := h.k.1
  have hk9 : K < 4294967296 := h.k.2
  have hc : 0 ≤ C := h.c.1
  have hc9 : C < 4294967296 := h.c.2
  have hh : 0 ≤ H := h.h.1
  have hh9 : H < 4294967296 := h.h.2
  have e1 : Int.tmod K 2 = K % 2 := Int.tmod_eq_emod_of_nonneg hk
  have e4 : Int.tdiv K 4 = K / 4 := Int.tdiv_eq_ediv_of_nonneg hk
  clear h
  by_cases h1 : K % 2 = 0
  · have g1 : (K % 2 == 0) = true := by simpa using h1
    have e : tickS ⟨C, L, K, H⟩ = ⟨C, L, K, H⟩ := by unfold tickS; exact if_pos h1
    rw [e]
    clear e h1
    go_enter Try.func14, Try.ntmps14
    go_wp2_with fail
    refine bodyPost_ret (v := stv _) ?_ rfl ⟨rfl, ?_⟩
    · simp [results, Try.results14, go_sem, stv] <;> (try exact h2.symm)
    · repeat (first | exact Below.refl _ _ | refine Below.setCell ?_ (by simp) _ | refine Below.alloc ?_ (by simp) _)
  · have g1 : (K % 2 == 0) = false := by simpa using h1
    obtain ⟨I, hI⟩ : ∃ I, (C + 1) % 4294967296 = I := ⟨_, rfl⟩
    have wI : IntKind.u32.wrap (C + 1) = I := hI
    by_cases h2 : I = L
    · have g2 : (I != L) = false := by simpa using h2
      by_cases h3 : H < 4294967295
      · have g3 : decide (H < 4294967295) = true := decide_eq_true h3
        have wH : IntKind.u32.wrap (H + 1) = H + 1 := IntWalk.u32_in _ (by omega)
        by_cases h4 : K / 4 = 1
        · have g4 : (K / 4 == 1) = true := by simpa using h4
          have e : tickS ⟨C, L, K, H⟩ = ⟨0, L, K, H + 1⟩ := by unfold tickS incS; simp only; rw [if_neg h1, hI, if_neg (by simpa using h2), if_pos h4, if_pos h3]
          rw [e]
          clear e h1
          go_enter Try.func14, Try.ntmps14
          go_wp2_with fail
          refine bodyPost_ret (v := stv _) ?_ rfl ⟨rfl, ?_⟩
          · simp [results, Try.results14, go_sem, stv] <;> (try exact h2.symm)
          · repeat (first | exact Below.refl _ _ | refine Below.setCell ?_ (by simp) _ | refine Below.alloc ?_ (by simp) _)
        · have g4 : (K / 4 == 1) = false := by simpa using h4
          have wK : IntKind.u32.wrap (K - 1) = K - 1 := IntWalk.u32_in _ (by omega)
          have e : tickS ⟨C, L, K, H⟩ = ⟨I, L, K - 1, H + 1⟩ := by unfold tickS incS; simp only; rw [if_neg h1, hI, if_neg (by simpa using h2), if_neg h4, if_pos h3]
          rw [e]
          clear e h1
          go_enter Try.func14, Try.ntmps14
          go_wp2_with fail
          refine bodyPost_ret (v := stv _) ?_ rfl ⟨rfl, ?_⟩
          · simp [results, Try.results14, go_sem, stv] <;> (try exact h2.symm)
          · repeat (first | exact Below.refl _ _ | refine Below.setCell ?_ (by simp) _ | refine Below.alloc ?_ (by simp) _)
      · have g3 : decide (H < 4294967295) = false := decide_eq_false h3
        by_cases h4 : K / 4 = 1
        · have g4 : (K / 4 == 1) = true := by simpa using h4
          have e : tickS ⟨C, L, K, H⟩ = ⟨0, L, K, H⟩ := by unfold tickS incS; simp only; rw [if_neg h1, hI, if_neg (by simpa using h2), if_pos h4, if_neg h3]
          rw [e]
          clear e h1
          go_enter Try.func14, Try.ntmps14
          go_wp2_with fail
          refine bodyPost_ret (v := stv _) ?_ rfl ⟨rfl, ?_⟩
          · simp [results, Try.results14, go_sem, stv] <;> (try exact h2.symm)
          · repeat (first | exact Below.refl _ _ | refine Below.setCell ?_ (by simp) _ | refine Below.alloc ?_ (by simp) _)
        · have g4 : (K / 4 == 1) = false := by simpa using h4
          have wK : IntKind.u32.wrap (K - 1) = K - 1 := IntWalk.u32_in _ (by omega)
          have e : tickS ⟨C, L, K, H⟩ = ⟨I, L, K - 1, H⟩ := by unfold tickS incS; simp only; rw [if_neg h1, hI, if_neg (by simpa using h2), if_neg h4, if_neg h3]
          rw [e]
          clear e h1
          go_enter Try.func14, Try.ntmps14
          go_wp2_with fail
          refine bodyPost_ret (v := stv _) ?_ rfl ⟨rfl, ?_⟩
          · simp [results, Try.results14, go_sem, stv] <;> (try exact h2.symm)
          · repeat (first | exact Below.refl _ _ | refine Below.setCell ?_ (by simp) _ | refine Below.alloc ?_ (by simp) _)
    · have g2 : (I != L) = true := by simpa using h2
      have e : tickS ⟨C, L, K, H⟩ = ⟨I, L, K, H⟩ := by unfold tickS incS; simp only; rw [if_neg h1, hI, if_pos h2]
      rw [e]
      clear e h1
      go_enter Try.func14, Try.ntmps14
      go_wp2_with fail
      refine bodyPost_ret (v := stv _) ?_ rfl ⟨rfl, ?_⟩
      · simp [results, Try.results14, go_sem, stv] <;> (try exact h2.symm)
      · repeat (first | exact Below.refl _ _ | refine Below.setCell ?_ (by simp) _ | refine Below.alloc ?_ (by simp) _)
end Go.Proofs.Ythfckoemldhoaaa.Timer
