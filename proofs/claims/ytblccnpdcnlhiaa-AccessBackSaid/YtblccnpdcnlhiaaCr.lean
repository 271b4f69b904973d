/- The walk of AccessBack, whole. -/
import Derived.Test.YtblccnpdcnlhiaaCq
namespace Go.Proofs.Ytblccnpdcnlhiaa.Access
open Go.RowKit Go.Maps Go.ChangeShapes Go.WideShapes Go.ChangeAt Kit Word
set_option linter.unusedVariables false

theorem same_arg {a : Option Addr} {cap : Nat} {l : List Int} {w : World} (hrow : Row .u8 w a 12 l) : ∀ wz g cg x, Below w.heap.size w wz → wz.ownsRow x 5 1 (.slice (some ⟨g, 0, none⟩) 12 cg) 12 (bv l) →
    Calls Try.prog 18 #[.slice (some ⟨g, 0, none⟩) 12 cg, .slice a 12 cap] wz fun e w' => e = .returned (.bool true) ∧ Below wz.heap.size wz w' := by
  intro wz g cg x hb hown
  obtain ⟨hl, _, hw, h4⟩ := hrow
  rcases h4 with h4 | ⟨b, off, rfl, hlt, hc⟩
  · omega
  refine (same_bytes g 0 b off 12 cg cap l l wz (by omega) hl hl (rec_at hown hl) (fun i hi => cell_keep hb (hc i hi))).mono ?_
  rintro e w' ⟨rfl, j, rfl⟩
  exact ⟨Word.ret_bool (eqB_refl _), below_drewN (Below.refl _ _) j⟩
theorem back_walk (W : Int) (r : Bool) (A S D : Int) (a : Option Addr) (n cap : Nat) (l : List Int) (w : World) (hW : (Lit.int .i64 W).wf = true) (hA : (Lit.int .u32 A).wf = true) (hS : (Lit.int .i64 S).wf = true) (hD : (Lit.int .u32 D).wf = true) (hrow : Row .u8 w a n l) (hnone : a = none → cap = 0) (hcap : n ≤ cap) :
    Calls Try.prog 6 #[acc W r A S D, .slice a n cap] w fun e w' => e = .returned (.bool true) ∧ Below w.heap.size w w' := by
  obtain ⟨a0, a1⟩ := bounds_u32 hA
  obtain ⟨d0, d1⟩ := bounds_u32 hD
  have A1 : A < 4294967296 := by omega
  have D1 : D < 4294967296 := by omega
  have kind : (12 < n) ∨ (n ≤ 12 ∧ ¬ (n = 12 ∧ okB l = true)) ∨ (n = 12 ∧ okB l = true) := by
    by_cases h : n = 12 ∧ okB l = true
    · exact .inr (.inr h)
    · by_cases h2 : 12 < n
      · exact .inl h2
      · exact .inr (.inl ⟨by omega, h⟩)
  have hl4 : n ≤ 12 ∧ ¬ (n = 12 ∧ okB l = true) → Dec n l 0 false 0 0 0 4 := fun h => by
    by_cases h2 : n < 12
    · exact .inr (.inl ⟨h2, rfl, rfl, rfl, rfl, rfl, rfl⟩)
    · exact .inr (.inr (.inl ⟨by omega, by cases e : okB l; rfl; exact absurd ⟨by omega, e⟩ h.2, rfl, rfl, rfl, rfl, rfl, rfl⟩))
  have DcL := fun (h : 12 < n) w hrow => Decode_any a n cap l 0 false 0 0 0 3 w hrow hcap (.inl ⟨h, rfl, rfl, rfl, rfl, rfl, rfl⟩)
  have DcS := fun h w hrow => Decode_any a n cap l 0 false 0 0 0 4 w hrow hcap (hl4 h)
  have DcO := fun (h : n = 12 ∧ okB l = true) w hrow => Decode_any a n cap l (fW l) (fr l) (fA l) (fS l) (fD l) 0 w hrow hcap (.inr (.inr (.inr ⟨h.1, h.2, rfl, rfl, rfl, rfl, rfl, rfl⟩)))
  have hb := byte_bd hrow.2.2.1
  have fa := fA_bd hb
  have fd := fD_bd hb
  have EnO := fun (h : n = 12 ∧ okB l = true) w => by
    have hk := ok_rec h.1 h.2 rfl rfl rfl rfl rfl
    exact Encode_any (fW l) (fr l) (fA l) (fS l) (fD l) true 12 l 0 w fa.1 fa.2 fd.1 fd.2 hk.1 (.inl ⟨rfl, rfl, hk.2.symm, rfl⟩)
  cases hR : rightB W r A S D
  · have Ri := fun w => Right_any W r A S D false w a0 A1 d0 D1 hR
    have En := fun w => Encode_any W r A S D false 0 [] 2 w a0 A1 d0 D1 hR (.inr ⟨rfl, rfl, rfl, rfl⟩)
    rcases kind with h | h | h
    · exact back_no_long a n cap l [] W r A S D 0 w hrow h awake_any Ri En (DcL h)
    · exact back_no_shape a n cap l [] W r A S D 0 w hrow h.1 awake_any Ri En (DcS h)
    · have h' := h
      obtain ⟨rfl, ho⟩ := h
      exact back_no_ok a 12 cap l [] W r A S D 0 _ _ _ _ _ w hrow rfl awake_any Ri En (DcO h') (EnO h') (same_arg hrow)
  · have Ri := fun w => Right_any W r A S D true w a0 A1 d0 D1 hR
    have En := fun w => Encode_any W r A S D true 12 _ 0 w a0 A1 d0 D1 hR (.inl ⟨rfl, rfl, rfl, rfl⟩)
    have Dx : ∀ w x y c, w.ownsRow x 5 1 (.slice (some ⟨y, 0, none⟩) 12 c) 12 (bv (recL W r A S D)) → Calls Try.prog 15 #[.slice (some ⟨y, 0, none⟩) 12 c] w fun e w' => e = .returned (.tuple #[acc W r A S D, .int .i64 0]) ∧ Below w.heap.size w w' :=
      fun w x y c ho => Decode_any _ 12 c _ W r A S D 0 w (row_own ho (recL_wf hR a0 A1 d0 D1)) (KitBytes.r_le ho) (dec_rec hR a0 A1 d0 D1)
    obtain ⟨t0, t1, hs, e1, e2⟩ := reach_end hR a0 A1
    have Rc := fun w => Reach_any W r A S D A (A + S - 1) true w a0 A1 d0 D1 hR rfl rfl
    have Sz := fun w => Size_val A (A + S - 1) S w a0 A1 t0 t1 hs
    rcases kind with h | h | h
    · exact back_yes_long a n cap l _ W r A S D _ w hrow h awake_any Ri En (DcL h) Dx Rc Sz t0 a0 e1 e2
    · exact back_yes_shape a n cap l _ W r A S D _ w hrow h.1 awake_any Ri En (DcS h) Dx Rc Sz t0 a0 e1 e2
    · have h' := h
      obtain ⟨rfl, ho⟩ := h
      exact back_yes_ok a 12 cap l _ W r A S D _ _ _ _ _ _ w hrow rfl awake_any Ri En (DcO h') Dx Rc Sz t0 a0 e1 e2 (EnO h') (same_arg hrow)
end Go.Proofs.Ytblccnpdcnlhiaa.Access
