/- Plain: a rotor's point and steps; what a value is that is a point. -/
import Derived.Test.YtelmkfpomeilpaaIc
import Derived.Test.YtelmkfpomeilpaaIb
import Derived.Test.YtelmkfpomeilpaaOw
import Derived.WalkLawsBesides
namespace Go.Proofs.Ytelmkfpomeilpaa.Rotor
open Exact Ring
set_option linter.unusedVariables false

/-- The parts x, y of a complex number are the point p's. -/
structure IsPt (x y : Nat) (p : Pt) : Prop where
  re : Den x p.re
  im : Den y p.im
  ok : okP p
def NotPt (x y : Nat) : Prop := ∀ p, ¬ IsPt x y p
theorem IsPt.one {x y : Nat} {p q : Pt} (h : IsPt x y p) (k : IsPt x y q) : p = q := by
  obtain ⟨a, b⟩ := p
  obtain ⟨c, d⟩ := q
  rw [show a = c from den_one h.re k.re, show b = d from den_one h.im k.im]
structure RS where
  p : Pt
  n : Int
def zeroR : RS := ⟨⟨0, 0⟩, 0⟩
structure OkR (s : RS) : Prop where
  p : okP s.p
  n : 0 ≤ s.n ∧ s.n < 4294967296
theorem okR_zero : OkR zeroR := ⟨⟨by show (-32768 : Int) ≤ 0 ∧ (0 : Int) ≤ 32767; omega, by show (-32768 : Int) ≤ 0 ∧ (0 : Int) ≤ 32767; omega⟩, by show (0 : Int) ≤ 0 ∧ (0 : Int) < _; omega⟩
def readR (s : RS) (reg : Int) : Int := if reg = 0 then wd s.p else if reg = 4 then s.n else 0
def incR (s : RS) : Int := (s.n + 1) % 4294967296
def writeR (s : RS) (reg v : Int) : RS :=
  if reg = 0 then ⟨pt v, s.n⟩ else if reg = 1 then ⟨add s.p (pt v), incR s⟩ else if reg = 2 then ⟨mul s.p (pt v), incR s⟩ else if reg = 3 then ⟨turn s.p v.toNat, incR s⟩ else s
theorem okR_write {s : RS} (h : OkR s) (reg v : Int) : OkR (writeR s reg v) := by
  have e : 0 ≤ incR s ∧ incR s < 4294967296 := by unfold incR; omega
  unfold writeR
  split
  · exact ⟨ok_pt v, h.n⟩
  split
  · exact ⟨ok_add _ _, e⟩
  split
  · exact ⟨ok_mul _ _, e⟩
  split
  · exact ⟨ok_turn h.p _, e⟩
  · exact h
theorem read_b {s : RS} (h : OkR s) (reg : Int) : 0 ≤ readR s reg ∧ readR s reg < 4294967296 := by
  unfold readR
  split
  · exact wd_range _
  split
  · exact h.n
  · omega
/-- What is asked of two points' parts. -/
theorem eq_parts {x y a b : Nat} {p q : Pt} (h : IsPt x y p) (k : IsPt a b q) : (FloatKind.f64.format.order x a == some .eq) = decide (p.re = q.re) ∧ (FloatKind.f64.format.order y b == some .eq) = decide (p.im = q.im) := ⟨ask_eq h.re k.re, ask_eq h.im k.im⟩
theorem eq_yes {x y a b : Nat} {p : Pt} (h : IsPt x y p) (k : IsPt a b p) : (FloatKind.f64.format.order x a == some .eq) = true ∧ (FloatKind.f64.format.order y b == some .eq) = true := by
  have := eq_parts h k
  exact ⟨this.1.trans (decide_eq_true rfl), this.2.trans (decide_eq_true rfl)⟩
/-- The word of whole parts that are known. -/
theorem isPt_of {x y : Nat} (a b : Int) (hx : floatOfInt .f64 a = x) (hy : floatOfInt .f64 b = y) (ha : -32768 ≤ a ∧ a ≤ 32767) (hb : -32768 ≤ b ∧ b ≤ 32767) : IsPt x y ⟨a, b⟩ := by
  subst hx hy
  exact ⟨den_int (by show a.natAbs < _; omega), den_int (by show b.natAbs < _; omega), ha, hb⟩
end Go.Proofs.Ytelmkfpomeilpaa.Rotor
