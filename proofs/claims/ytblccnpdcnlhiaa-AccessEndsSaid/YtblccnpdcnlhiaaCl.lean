/- What is decoded, in numbers; Decode of any bytes that came in. -/
import Derived.Test.YtblccnpdcnlhiaaCk
namespace Go.Proofs.Ytblccnpdcnlhiaa.Access
open Go.RowKit Go.Maps Go.ChangeShapes Go.WideShapes Go.ChangeAt Kit Word
set_option linter.unusedVariables false

/-- The parts that twelve bytes tell. -/
def fW (l : List Int) : Int := l.getD 0 0
def fr (l : List Int) : Bool := decide (l.getD 1 0 % 2 = 1)
def fA (l : List Int) : Int := num (l.getD 4 0) (l.getD 5 0) (l.getD 6 0) (l.getD 7 0)
def fS (l : List Int) : Int := szV (l.getD 1 0)
def fD (l : List Int) : Int := num (l.getD 8 0) (l.getD 9 0) (l.getD 10 0) (l.getD 11 0)
def okB (l : List Int) : Bool := rightB (fW l) (fr l) (fA l) (fS l) (fD l) && decide (recL (fW l) (fr l) (fA l) (fS l) (fD l) = l)
def inB (l : List Int) : Bool := decide (l.getD 1 0 ≤ 5 ∧ l.getD 2 0 = 0 ∧ l.getD 3 0 = 0)
theorem byte_bd {l : List Int} (hw : ∀ c ∈ l, (Lit.int .u8 c).wf = true) : ∀ i, 0 ≤ l.getD i 0 ∧ l.getD i 0 < 256 := byte_at hw
theorem twelve {l : List Int} (hl : l.length = 12) : ∃ c0 c1 c2 c3 c4 c5 c6 c7 c8 c9 c10 c11, l = [c0, c1, c2, c3, c4, c5, c6, c7, c8, c9, c10, c11] := by
  match l, hl with
  | [c0, c1, c2, c3, c4, c5, c6, c7, c8, c9, c10, c11], _ => exact ⟨_, _, _, _, _, _, _, _, _, _, _, _, rfl⟩
theorem sz_five {f : Int} (h : szV f = 1 ∨ szV f = 2 ∨ szV f = 4) : 0 ≤ f ∧ f ≤ 5 := by
  by_cases hf : 0 ≤ f ∧ f ≤ 5
  · exact hf
  · rw [sz_no hf] at h; omega
theorem ok_in {l : List Int} (hl : l.length = 12) (hb : ∀ i, 0 ≤ l.getD i 0 ∧ l.getD i 0 < 256) : okB l = (inB l && rightB (fW l) (fr l) (fA l) (fS l) (fD l)) := by
  obtain ⟨c0, c1, c2, c3, c4, c5, c6, c7, c8, c9, c10, c11, rfl⟩ := twelve hl
  have h1 := hb 1
  have h4 := hb 4
  have h5 := hb 5
  have h6 := hb 6
  have h7 := hb 7
  have h8 := hb 8
  have h9 := hb 9
  have h10 := hb 10
  have h11 := hb 11
  simp only [List.getD_eq_getElem?_getD, List.getElem?_cons_zero, List.getElem?_cons_succ, Option.getD_some] at h1 h4 h5 h6 h7 h8 h9 h10 h11
  have eW : fW [c0, c1, c2, c3, c4, c5, c6, c7, c8, c9, c10, c11] = c0 := rfl
  have er : fr [c0, c1, c2, c3, c4, c5, c6, c7, c8, c9, c10, c11] = decide (c1 % 2 = 1) := rfl
  have eA : fA [c0, c1, c2, c3, c4, c5, c6, c7, c8, c9, c10, c11] = num c4 c5 c6 c7 := rfl
  have eS : fS [c0, c1, c2, c3, c4, c5, c6, c7, c8, c9, c10, c11] = szV c1 := rfl
  have eD : fD [c0, c1, c2, c3, c4, c5, c6, c7, c8, c9, c10, c11] = num c8 c9 c10 c11 := rfl
  have eI : inB [c0, c1, c2, c3, c4, c5, c6, c7, c8, c9, c10, c11] = decide (c1 ≤ 5 ∧ c2 = 0 ∧ c3 = 0) := rfl
  unfold okB
  rw [eW, er, eA, eS, eD, eI]
  cases hR : rightB c0 (decide (c1 % 2 = 1)) (num c4 c5 c6 c7) (szV c1) (num c8 c9 c10 c11)
  · simp
  · obtain ⟨_, _, hS, _⟩ := right_parts hR
    have h5' := sz_five hS
    have hf := flag_sz h5'.1 h5'.2
    obtain ⟨a1, a2, a3, a4⟩ := four_num ⟨h4, h5, h6, h7⟩
    obtain ⟨b1, b2, b3, b4⟩ := four_num ⟨h8, h9, h10, h11⟩
    rw [Bool.true_and, Bool.and_true, decide_eq_decide]
    unfold recL
    rw [hf, a1, a2, a3, a4, b1, b2, b3, b4]
    simp only [List.cons.injEq, and_true, true_and]
    omega

/-- What is decoded. -/
def Dec (n : Nat) (l : List Int) (W : Int) (r : Bool) (A S D er : Int) : Prop :=
  (12 < n ∧ W = 0 ∧ r = false ∧ A = 0 ∧ S = 0 ∧ D = 0 ∧ er = 3) ∨ (n < 12 ∧ W = 0 ∧ r = false ∧ A = 0 ∧ S = 0 ∧ D = 0 ∧ er = 4) ∨
  (n = 12 ∧ okB l = false ∧ W = 0 ∧ r = false ∧ A = 0 ∧ S = 0 ∧ D = 0 ∧ er = 4) ∨ (n = 12 ∧ okB l = true ∧ W = fW l ∧ r = fr l ∧ A = fA l ∧ S = fS l ∧ D = fD l ∧ er = 0)
theorem dec_is (n : Nat) (l : List Int) : ∃ W r A S D er, Dec n l W r A S D er := by
  by_cases h1 : 12 < n
  · exact ⟨_, _, _, _, _, _, .inl ⟨h1, rfl, rfl, rfl, rfl, rfl, rfl⟩⟩
  by_cases h2 : n < 12
  · exact ⟨_, _, _, _, _, _, .inr (.inl ⟨h2, rfl, rfl, rfl, rfl, rfl, rfl⟩)⟩
  cases h : okB l
  · exact ⟨_, _, _, _, _, _, .inr (.inr (.inl ⟨by omega, h, rfl, rfl, rfl, rfl, rfl, rfl⟩))⟩
  · exact ⟨_, _, _, _, _, _, .inr (.inr (.inr ⟨by omega, h, rfl, rfl, rfl, rfl, rfl, rfl⟩))⟩

theorem fA_bd {l : List Int} (hb : ∀ i, 0 ≤ l.getD i 0 ∧ l.getD i 0 < 256) : 0 ≤ fA l ∧ fA l < 4294967296 := num_bd ⟨hb 4, hb 5, hb 6, hb 7⟩
theorem fD_bd {l : List Int} (hb : ∀ i, 0 ≤ l.getD i 0 ∧ l.getD i 0 < 256) : 0 ≤ fD l ∧ fD l < 4294967296 := num_bd ⟨hb 8, hb 9, hb 10, hb 11⟩
theorem tw_of {w : World} {b off : Nat} {l : List Int} (h : ∀ i, i < 12 → w.cell? ⟨b, off + i, none⟩ = some (.int .u8 (l.getD i 0))) : Tw w b off l := h
theorem Tw.keep {w w' : World} {g off : Nat} {l : List Int} (h : Tw w g off l) (hb : Below w.heap.size w w') : Tw w' g off l := fun i hi => cell_keep hb (h i hi)
theorem mem_bd {l : List Int} (hw : ∀ c ∈ l, (Lit.int .u8 c).wf = true) : ∀ c ∈ l, 0 ≤ c ∧ c < 256 := fun c hc => by
  have := bounds_u8 (hw c hc); omega
theorem Decode_any (a : Option Addr) (n cap : Nat) (l : List Int) (W : Int) (r : Bool) (A S D er : Int) (w : World) (hrow : Row .u8 w a n l) (hcap : n ≤ cap) (hd : Dec n l W r A S D er) :
    Calls Try.prog 15 #[.slice a n cap] w fun e w' => e = .returned (.tuple #[acc W r A S D, .int .i64 er]) ∧ Below w.heap.size w w' := by
  rcases hd with ⟨h, rfl, rfl, rfl, rfl, rfl, rfl⟩ | ⟨h, rfl, rfl, rfl, rfl, rfl, rfl⟩ | hd
  · exact Decode_long a n cap w h
  · exact Decode_none a n cap 0 false 0 0 0 w (by omega) (fun w' _ => recordOf_no a n cap w' (by omega))
  have hn : n = 12 := by rcases hd with h | h <;> exact h.1
  subst hn
  obtain ⟨hl, _, hw, h4⟩ := hrow
  rcases h4 with h4 | ⟨b, off, rfl, hlt, hc⟩
  · omega
  have hb := byte_bd hw
  have hA := fA_bd hb
  have hD := fD_bd hb
  have hT : Tw w b off l := hc
  have RO : ∀ w', Below w.heap.size w w' → Calls Try.prog 31 #[.slice (some ⟨b, off, none⟩) 12 cap] w' fun e w'' => e = .returned (.tuple #[acc (fW l) (fr l) (fA l) (fS l) (fD l), .bool true]) ∧ Below w'.heap.size w' w'' :=
    fun w' h => recordOf_yes b off cap l _ _ _ _ _ w' hcap hb (hT.keep h) rfl rfl rfl rfl rfl
  cases hR : rightB (fW l) (fr l) (fA l) (fS l) (fD l)
  · have R := fun w => right_any (fW l) (fr l) (fA l) (fS l) (fD l) false w hA.1 hA.2 hD.1 hD.2 hR
    rcases hd with ⟨_, _, rfl, rfl, rfl, rfl, rfl, rfl⟩ | ⟨_, h, _⟩
    · exact Decode_wrong _ 12 cap _ _ _ _ _ w (by omega) RO R
    · exfalso; unfold okB at h; rw [hR] at h; cases h
  · have R := fun w => right_any (fW l) (fr l) (fA l) (fS l) (fD l) true w hA.1 hA.2 hD.1 hD.2 hR
    have B := fun w => bytes_any (fW l) (fr l) (fA l) (fS l) (fD l) w (hb 0).1 (hb 0).2 hA.1 hA.2 hD.1 hD.2
    have eq : decide (recL (fW l) (fr l) (fA l) (fS l) (fD l) = l) = okB l := by unfold okB; rw [hR, Bool.true_and]
    have E : ∀ w' b' g, Below w.heap.size w w' → w'.ownsRow b' 5 1 (.slice (some ⟨g, 0, none⟩) 12 12) 12 (bv (recL (fW l) (fr l) (fA l) (fS l) (fD l))) → Calls Try.prog 32 #[.slice (some ⟨g, 0, none⟩) 12 12, .slice (some ⟨b, off, none⟩) 12 cap] w' fun e w'' => e = .returned (.bool (okB l)) ∧ w' = w'' := by
      intro w' b' g hb1 hown
      rw [← eq]
      exact equal_at g 0 12 b off cap 12 _ l w' rfl hl (recL_bd (hb 0).1 (hb 0).2 hA.1 hA.2 hD.1 hD.2) (mem_bd hw) (rec_at hown rfl) (hT.keep hb1)
    rcases hd with ⟨_, h, rfl, rfl, rfl, rfl, rfl, rfl⟩ | ⟨_, h, rfl, rfl, rfl, rfl, rfl, rfl⟩
    · rw [h] at E
      exact Decode_off _ 12 cap _ _ _ _ _ w (by omega) RO R B E
    · rw [h] at E
      exact Decode_ok _ 12 cap _ _ _ _ _ w (by omega) RO R B E
end Go.Proofs.Ytblccnpdcnlhiaa.Access
