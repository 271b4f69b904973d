/- Plain: a number cut towards nought by the model's entry math.archTrunc; who is no short. -/
import Derived.Test.YtelmkfpomeilpaaIc
import Derived.Laws.Externs
import GoSem.Extern.MathFloor
namespace Go.Proofs.Ytelmkfpomeilpaa.Exact
open Ieee

/-- What the entry makes of a word that is a number. -/
def truncV (x : Nat) : Nat := double.write ((double.read x).integral .zero)
theorem trunc_run {P : Program} (x : Nat) (h : ∀ s f, double.read x ≠ .nan s f) (w : World) :
    (Extern.MathFloor.toIntegral "math.archTrunc" .zero #[.float .f64 x]).run P w = .ok (.float .f64 (truncV x)) w := by
  have key : ∀ d, FloatKind.f64.decode x = d → (∀ s f, d ≠ .nan s f) → Extern.MathFloor.toIntegral "math.archTrunc" .zero #[.float .f64 x] = pure (.float .f64 (double.write (d.integral .zero))) := by
    intro d hd hn
    delta Extern.MathFloor.toIntegral
    conv => lhs; whnf
    rw [hd]
    cases d with
    | nan s f => exact absurd rfl (hn s f)
    | infinity s => rfl
    | number s m e => rfl
  rw [key _ rfl h]
  rfl
theorem den_no_nan {x : Nat} {n : Int} (h : Den x n) : ∀ s f, double.read x ≠ .nan s f := by
  obtain ⟨s, k, hr, _⟩ := h
  intro s' f e
  rw [hr] at e
  cases e
/-- A number whose significand is whole. -/
theorem den_whole (s : Bool) (c : Nat) : DenD (.number s c 0) (signed s c 0) := by
  refine ⟨s, 0, ?_, fun h => ?_⟩
  · rw [signed_abs, Nat.pow_zero, Nat.mul_one, Nat.mul_one]; rfl
  · refine signed_sign (fun h0 => h ?_)
    subst h0
    unfold signed
    cases s <;> simp
/-- What is cut, is whole, where it is no greater than b. -/
theorem trunc_den_of {x : Nat} {T : Int} (h : (double.read x).toInt .zero = some T) (hb : T.natAbs < 9007199254740992) : Den (truncV x) T := by
  unfold truncV
  cases hd : double.read x with
  | nan s f => rw [hd] at h; simp [Datum.toInt, Datum.integral] at h
  | infinity s => rw [hd] at h; simp [Datum.toInt, Datum.integral] at h
  | number s m e =>
    rw [hd] at h
    unfold Datum.toInt at h
    simp only [Datum.integral] at h ⊢
    have e1 := Option.some.inj h
    rw [← e1]
    exact den_write (den_whole _ _) (by rw [e1]; exact hb)
theorem trunc_den {x : Nat} {n : Int} (h : Den x n) (hn : n.natAbs < 9007199254740992) : Den (truncV x) n := trunc_den_of (toInt_den h) hn

/-- A word is a short, or the questions tell that it is none. -/
theorem none_cases (x : Nat) {l h : Nat} (hl : Den l (-32768)) (hh : Den h 32767) :
    (∃ n, Den x n ∧ -32768 ≤ n ∧ n ≤ 32767) ∨ (¬ (∃ n, Den x n ∧ -32768 ≤ n ∧ n ≤ 32767) ∧
      ((double.order l x == some .lt || double.order l x == some .eq) = false ∨
       ((double.order l x == some .lt || double.order l x == some .eq) = true ∧ (double.order x h == some .lt || double.order x h == some .eq) = false) ∨
       ((double.order l x == some .lt || double.order l x == some .eq) = true ∧ (double.order x h == some .lt || double.order x h == some .eq) = true ∧ (∀ s f, double.read x ≠ .nan s f) ∧ (double.order x (truncV x) == some .eq) = false))) := by
  by_cases hw : ∃ n, Den x n ∧ -32768 ≤ n ∧ n ≤ 32767
  · exact .inl hw
  refine .inr ⟨hw, ?_⟩
  cases hA : (double.order l x == some .lt || double.order l x == some .eq)
  · exact .inl rfl
  cases hB : (double.order x h == some .lt || double.order x h == some .eq)
  · exact .inr (.inl ⟨rfl, rfl⟩)
  refine .inr (.inr ⟨rfl, rfl, ?_⟩)
  simp only [Bool.or_eq_true, beq_iff_eq] at hA hB
  obtain ⟨sl, ml, el, rl, gl, vl⟩ := den_place hl
  obtain ⟨sh, mh, eh, rh, gh, vh⟩ := den_place hh
  rcases read_cases x with ⟨s, f, hx⟩ | ⟨s, hx⟩ | ⟨s, m, i, hx, hi, _⟩
  · exfalso
    unfold Format.order at hB
    rw [hx] at hB
    simp [Datum.order] at hB
  · exfalso
    unfold Format.order at hA hB
    rw [hx, rl] at hA
    rw [hx, rh] at hB
    cases s <;> simp [Datum.order] at hA hB
  · refine ⟨(fun s' f e => by rw [hx] at e; cases e), ?_⟩
    have hB0 := hB
    have b1 : -32768 * 2 ^ 1074 ≤ signed s m (i + 1074).toNat := by
      unfold Format.order at hA
      rw [hx, rl, order_up gl hi, vl] at hA
      exact hA.elim (fun h => Int.le_of_lt ((cmp_int _ _).2.1.1 (Option.some.inj h))) (fun h => Int.le_of_eq ((cmp_int _ _).1.1 (Option.some.inj h)))
    have b2 : signed s m (i + 1074).toNat ≤ 32767 * 2 ^ 1074 := by
      unfold Format.order at hB
      rw [hx, rh, order_up hi gh, vh] at hB
      exact hB.elim (fun h => Int.le_of_lt ((cmp_int _ _).2.1.1 (Option.some.inj h))) (fun h => Int.le_of_eq ((cmp_int _ _).1.1 (Option.some.inj h)))
    have hab : (signed s m (i + 1074).toNat).natAbs ≤ 32768 * 2 ^ 1074 := by
      obtain ⟨K, hK⟩ : ∃ K : Nat, 2 ^ 1074 = K := ⟨_, rfl⟩
      have hK2 : (2 : Int) ^ 1074 = (K : Int) := by rw [← hK]; exact (Int.natCast_pow 2 1074).symm
      rw [hK2] at b1 b2
      rw [hK]
      omega
    obtain ⟨t, ht, ht2⟩ := cut_between hi hab
    have hv : -32768 ≤ signed s t 0 ∧ signed s t 0 ≤ 32768 := by
      unfold signed
      rw [Nat.shiftLeft_zero]
      cases s
      · rw [if_neg (by decide)]; omega
      · rw [if_pos rfl]; omega
    have hD : Den (truncV x) (signed s t 0) := trunc_den_of (by rw [hx]; exact ht2) (by omega)
    refine beq_eq_false_iff_ne.2 (fun h3 => ?_)
    have hd := eq_den hD (by omega) h3
    refine hw ⟨_, hd, hv.1, ?_⟩
    rw [ord_den hd hh] at hB0
    exact hB0.elim (fun h => Int.le_of_lt ((cmp_int _ _).2.1.1 (Option.some.inj h))) (fun h => Int.le_of_eq ((cmp_int _ _).1.1 (Option.some.inj h)))
end Go.Proofs.Ytelmkfpomeilpaa.Exact
