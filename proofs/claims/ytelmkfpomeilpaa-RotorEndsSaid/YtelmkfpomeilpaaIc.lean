/- Whole numbers as floats: the questions as truth values; complex numbers of whole parts. -/
import Derived.Test.YtelmkfpomeilpaaIa
import Derived.Laws.ComplexArith
namespace Go.Proofs.Ytelmkfpomeilpaa.Exact
open Ieee

theorem ask_is {a b : Int} (o : Ordering) : (some (compare a b) == some o) = decide (compare a b = o) := by
  rw [show (some (compare a b) == some o) = (compare a b == o) from rfl]
  cases compare a b <;> cases o <;> rfl
theorem ask_eq {x y : Nat} {a b : Int} (hx : Den x a) (hy : Den y b) : (FloatKind.f64.format.order x y == some .eq) = decide (a = b) := by
  rw [show FloatKind.f64.format.order x y = some (compare a b) from ord_den hx hy, ask_is]
  exact decide_eq_decide.2 (cmp_int a b).1
theorem ask_lt {x y : Nat} {a b : Int} (hx : Den x a) (hy : Den y b) : (FloatKind.f64.format.order x y == some .lt) = decide (a < b) := by
  rw [show FloatKind.f64.format.order x y = some (compare a b) from ord_den hx hy, ask_is]
  exact decide_eq_decide.2 (cmp_int a b).2.1
theorem ask_gt {x y : Nat} {a b : Int} (hx : Den x a) (hy : Den y b) : (FloatKind.f64.format.order x y == some .gt) = decide (b < a) := by
  rw [show FloatKind.f64.format.order x y = some (compare a b) from ord_den hx hy, ask_is]
  exact decide_eq_decide.2 (cmp_int a b).2.2
theorem sum_parts {p q r s : Nat} {a b c d : Int} (h1 : Den p a) (h2 : Den q b) (h3 : Den r c) (h4 : Den s d) (k1 : (a + c).natAbs < 9007199254740992) (k2 : (b + d).natAbs < 9007199254740992) : ∃ x y, cSumBits .add .f64 p q r s = some (x, y) ∧ Den x (a + c) ∧ Den y (b + d) := by
  obtain ⟨x, hx, dx⟩ := add_den h1 h3 k1
  obtain ⟨y, hy, dy⟩ := add_den h2 h4 k2
  exact ⟨x, y, by unfold cSumBits; rw [hx, hy]; rfl, dx, dy⟩
theorem mul_parts {p q r s : Nat} {a b c d : Int} (h1 : Den p a) (h2 : Den q b) (h3 : Den r c) (h4 : Den s d) (k1 : (a * c).natAbs ≤ 1073741824) (k2 : (b * d).natAbs ≤ 1073741824) (k3 : (a * d).natAbs ≤ 1073741824) (k4 : (b * c).natAbs ≤ 1073741824) : ∃ x y, cMulBits p q r s = some (x, y) ∧ Den x (a * c - b * d) ∧ Den y (a * d + b * c) := by
  obtain ⟨x1, e1, d1⟩ := mul_den h1 h3 (by omega)
  obtain ⟨x2, e2, d2⟩ := mul_den h2 h4 (by omega)
  obtain ⟨x3, e3, d3⟩ := mul_den h1 h4 (by omega)
  obtain ⟨x4, e4, d4⟩ := mul_den h2 h3 (by omega)
  obtain ⟨x, hx, dx⟩ := sub_den d1 d2 (by omega)
  obtain ⟨y, hy, dy⟩ := add_den d3 d4 (by omega)
  refine ⟨x, y, ?_, dx, dy⟩
  unfold cMulBits
  rw [e1, e2, e3, e4]
  simp only [Option.bind_some]
  rw [hx, hy]
  rfl
theorem den_range {x : Nat} {n : Int} (h : Den x n) (t : Int) : (double.read x).toInt .zero = some t ↔ t = n := by
  rw [toInt_den h]
  exact ⟨fun e => (Option.some.inj e).symm, fun e => by rw [e]⟩
end Go.Proofs.Ytelmkfpomeilpaa.Exact
