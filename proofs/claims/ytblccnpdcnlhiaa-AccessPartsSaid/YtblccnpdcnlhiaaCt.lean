/- The walk of AccessParts, whole. -/
import Derived.Test.YtblccnpdcnlhiaaCs
import Derived.Test.YtblccnpdcnlhiaaCq
namespace Go.Proofs.Ytblccnpdcnlhiaa.Access
open Go.RowKit Go.Maps Go.ChangeShapes Go.WideShapes Go.ChangeAt Kit Word
set_option linter.unusedVariables false

theorem right_world {W p : Int} {r : Bool} {A S D : Int} (h : rightB W r A S D = true) (h0 : 0 ≤ p) (h7 : p ≤ 7) : rightB p r A S D = true := by
  obtain ⟨_, _, hS, ha, hl, hr⟩ := right_parts h
  exact right_of h0 (by omega) hS ha hl hr
theorem right_read {W A S d : Int} (h : d ≠ 0) : rightB W false A S d = false := by
  have e : silB false d = false := by unfold silB; simp [h]
  unfold rightB
  rw [e, Bool.and_false]
theorem right_odd {W : Int} {r : Bool} {A S D : Int} (h : rightB W r A S D = true) : rightB W r (A / 2 * 2 + 1) S D = (S == 1) := by
  obtain ⟨h0, h8, hS, ha, hl, hr⟩ := right_parts h
  by_cases h1 : S = 1
  · subst h1
    rw [right_of h0 h8 hS (by omega) hl hr]
    rfl
  · have e : (S == 1) = false := by rw [beq_eq_false_iff_ne]; exact h1
    rw [e]
    cases hR : rightB W r (A / 2 * 2 + 1) S D
    · rfl
    · exfalso
      obtain ⟨_, _, _, hb, _⟩ := right_parts hR
      rcases hS with rfl | rfl | rfl <;> omega
theorem rec_inj {W W2 : Int} {r r2 : Bool} {A S D A2 S2 D2 : Int} (h : rightB W r A S D = true) (h2 : rightB W2 r2 A2 S2 D2 = true) (hA : 0 ≤ A) (hA' : A < 4294967296) (hD : 0 ≤ D) (hD' : D < 4294967296) (hA2 : 0 ≤ A2) (hA2' : A2 < 4294967296) (hD2 : 0 ≤ D2) (hD2' : D2 < 4294967296)
    (he : recL W r A S D = recL W2 r2 A2 S2 D2) : W = W2 ∧ r = r2 ∧ A = A2 ∧ S = S2 ∧ D = D2 := by
  obtain ⟨_, _, hS, _⟩ := right_parts h
  obtain ⟨_, _, hS2, _⟩ := right_parts h2
  have e1 : fW (recL W r A S D) = W := rfl
  have e2 : fr (recL W r A S D) = r := wr_flag
  have e3 : fA (recL W r A S D) = A := num_four hA hA'
  have e4 : fS (recL W r A S D) = S := sz_flag hS
  have e5 : fD (recL W r A S D) = D := num_four hD hD'
  have g1 : fW (recL W2 r2 A2 S2 D2) = W2 := rfl
  have g2 : fr (recL W2 r2 A2 S2 D2) = r2 := wr_flag
  have g3 : fA (recL W2 r2 A2 S2 D2) = A2 := num_four hA2 hA2'
  have g4 : fS (recL W2 r2 A2 S2 D2) = S2 := sz_flag hS2
  have g5 : fD (recL W2 r2 A2 S2 D2) = D2 := num_four hD2 hD2'
  exact ⟨by rw [← e1, he, g1], by rw [← e2, he, g2], by rw [← e3, he, g3], by rw [← e4, he, g4], by rw [← e5, he, g5]⟩
theorem same_two {L M : List Int} {q : Bool} (hL : L.length = 12) (hM : M.length = 12) (hq : decide (L = M) = q) : ∀ (wz : World) (g cg h ch x z : Nat), wz.ownsRow x 5 1 (.slice (some ⟨g, 0, none⟩) 12 cg) 12 (bv L) → wz.ownsRow z 5 1 (.slice (some ⟨h, 0, none⟩) 12 ch) 12 (bv M) →
    Calls Try.prog 18 #[.slice (some ⟨g, 0, none⟩) 12 cg, .slice (some ⟨h, 0, none⟩) 12 ch] wz fun e w' => e = .returned (.bool q) ∧ Below wz.heap.size wz w' := by
  intro wz g cg h ch x z h1 h2
  subst hq
  refine (same_bytes g 0 h 0 12 cg ch L M wz (by omega) hL hM (rec_at h1 hL) (rec_at h2 hM)).mono ?_
  rintro e w' ⟨rfl, j, rfl⟩
  exact ⟨rfl, below_drewN (Below.refl _ _) j⟩
theorem parts_walk (W : Int) (r : Bool) (A S D W2 : Int) (r2 : Bool) (A2 S2 D2 x : Int) (w : World) (hW : (Lit.int .i64 W).wf = true) (hA : (Lit.int .u32 A).wf = true) (hS : (Lit.int .i64 S).wf = true) (hD : (Lit.int .u32 D).wf = true)
    (hW2 : (Lit.int .i64 W2).wf = true) (hA2 : (Lit.int .u32 A2).wf = true) (hS2 : (Lit.int .i64 S2).wf = true) (hD2 : (Lit.int .u32 D2).wf = true) (hx : (Lit.int .i64 x).wf = true) :
    Calls Try.prog 7 #[acc W r A S D, acc W2 r2 A2 S2 D2, .int .i64 x] w fun e w' => e = .returned (.bool true) ∧ Below w.heap.size w w' := by
  obtain ⟨a0, a1⟩ := bounds_u32 hA
  obtain ⟨d0, d1⟩ := bounds_u32 hD
  obtain ⟨b0, b1⟩ := bounds_u32 hA2
  obtain ⟨c0, c1⟩ := bounds_u32 hD2
  obtain ⟨x0, x1⟩ := bounds_i64 hx
  have A1 : A < 4294967296 := by omega
  have D1 : D < 4294967296 := by omega
  have A3 : A2 < 4294967296 := by omega
  have D3 : D2 < 4294967296 := by omega
  obtain ⟨p, p0, p7, hp⟩ : ∃ p : Int, 0 ≤ p ∧ p ≤ 7 ∧ ∀ w, Calls Try.prog 19 #[.int .i64 x, .int .i64 8] w fun e w' => e = .returned (.int .i64 p) ∧ w = w' := pick8_is x (by omega) (by omega)
  have ho := or1 d0 D1
  have ho2 := or1 a0 A1
  have R2 := fun w => Right_any W false A S (D / 2 * 2 + 1) false w a0 A1 (by omega) (by omega) (right_read (by omega))
  have y0 : 0 ≤ A / 2 * 2 + 1 := by omega
  have y1 : A / 2 * 2 + 1 < 4294967296 := by omega
  cases hR : rightB W r A S D
  · have Ri := fun w => Right_any W r A S D false w a0 A1 d0 D1 hR
    have En := fun w => Encode_any W r A S D false 0 [] 2 w a0 A1 d0 D1 hR (.inr ⟨rfl, rfl, rfl, rfl⟩)
    cases hQ : rightB W2 r2 A2 S2 D2
    · have En2 := fun w => Encode_any W2 r2 A2 S2 D2 false 0 [] 2 w b0 A3 c0 D3 hQ (.inr ⟨rfl, rfl, rfl, rfl⟩)
      exact parts_nn [] [] W r A S D x p _ _ W2 r2 A2 S2 D2 w awake_any hp Ri R2 En En2 ho ho2
    · have En2 := fun w => Encode_any W2 r2 A2 S2 D2 true 12 _ 0 w b0 A3 c0 D3 hQ (.inl ⟨rfl, rfl, rfl, rfl⟩)
      exact parts_ny [] _ W r A S D x p _ _ W2 r2 A2 S2 D2 w awake_any hp Ri R2 En En2 ho ho2
  · have Ri := fun w => Right_any W r A S D true w a0 A1 d0 D1 hR
    have En := fun w => Encode_any W r A S D true 12 _ 0 w a0 A1 d0 D1 hR (.inl ⟨rfl, rfl, rfl, rfl⟩)
    have R1 := fun w => Right_any p r A S D true w a0 A1 d0 D1 (right_world hR p0 p7)
    have R3 := fun w => Right_any W r (A / 2 * 2 + 1) S D (S == 1) w y0 y1 d0 D1 (right_odd hR)
    cases hQ : rightB W2 r2 A2 S2 D2
    · have En2 := fun w => Encode_any W2 r2 A2 S2 D2 false 0 [] 2 w b0 A3 c0 D3 hQ (.inr ⟨rfl, rfl, rfl, rfl⟩)
      exact parts_yn _ [] W r A S D x p _ _ W2 r2 A2 S2 D2 w awake_any hp Ri R2 En En2 ho ho2 R1 R3
    · have En2 := fun w => Encode_any W2 r2 A2 S2 D2 true 12 _ 0 w b0 A3 c0 D3 hQ (.inl ⟨rfl, rfl, rfl, rfl⟩)
      have inj := rec_inj hR hQ a0 A1 d0 D1 b0 A3 c0 D3
      have Sm := fun (hne : ¬ (W = W2 ∧ r = r2 ∧ A = A2 ∧ S = S2 ∧ D = D2)) => same_two (L := recL W r A S D) (M := recL W2 r2 A2 S2 D2) (q := false) rfl rfl (decide_eq_false (fun e => hne (inj e)))
      by_cases h1 : W = W2
      · subst h1
        by_cases h2 : r = r2
        · subst h2
          by_cases h3 : A = A2
          · subst h3
            by_cases h4 : S = S2
            · subst h4
              by_cases h5 : D = D2
              · subst h5
                exact parts_eq _ _ W r A S D x p _ _ w awake_any hp Ri R2 En En2 ho ho2 R1 R3 (same_two rfl rfl (decide_eq_true rfl))
              · exact parts_ne4 _ _ W r A S D x p _ _ D2 w awake_any hp Ri R2 En En2 ho ho2 R1 R3 (Sm (fun e => h5 e.2.2.2.2)) h5
            · exact parts_ne3 _ _ W r A S D x p _ _ S2 D2 w awake_any hp Ri R2 En En2 ho ho2 R1 R3 (Sm (fun e => h4 e.2.2.2.1)) h4
          · exact parts_ne2 _ _ W r A S D x p _ _ A2 S2 D2 w awake_any hp Ri R2 En En2 ho ho2 R1 R3 (Sm (fun e => h3 e.2.2.1)) h3
        · have Sm' := Sm (fun e => h2 e.2.1)
          clear Sm inj
          cases r
          · cases r2
            · exact absurd rfl h2
            · exact parts_ne1f _ _ W A S D x p _ _ A2 S2 D2 w awake_any hp Ri R2 En En2 ho ho2 R1 R3 Sm'
          · cases r2
            · exact parts_ne1t _ _ W A S D x p _ _ A2 S2 D2 w awake_any hp Ri R2 En En2 ho ho2 R1 R3 Sm'
            · exact absurd rfl h2
      · exact parts_ne0 _ _ W r A S D x p _ _ W2 r2 A2 S2 D2 w awake_any hp Ri R2 En En2 ho ho2 R1 R3 (Sm (fun e => h1 e.1)) h1
end Go.Proofs.Ytblccnpdcnlhiaa.Access
