/- Points of shorts: the ring (plain). -/
import Derived.Laws.FloatArith
namespace Go.Proofs.Ytelmkfpomeilpaa.Ring

def sh (n : Int) : Int := (n + 32768) % 65536 - 32768
theorem sh_range (n : Int) : -32768 ≤ sh n ∧ sh n ≤ 32767 := by unfold sh; omega
theorem sh_self {n : Int} (h : -32768 ≤ n ∧ n ≤ 32767) : sh n = n := by unfold sh; omega
theorem sh_form (n : Int) : ∃ q, sh n = n + 65536 * q := ⟨-((n + 32768) / 65536), by unfold sh; omega⟩
theorem sh_like {m n : Int} (q : Int) (h : m = n + 65536 * q) : sh m = sh n := by subst h; unfold sh; omega
theorem sh_mod (n : Int) : sh n % 65536 = n % 65536 := by unfold sh; omega

structure Pt where
  re : Int
  im : Int
def okP (z : Pt) : Prop := (-32768 ≤ z.re ∧ z.re ≤ 32767) ∧ -32768 ≤ z.im ∧ z.im ≤ 32767
def pt (v : Int) : Pt := ⟨sh (v % 65536), sh (v / 65536)⟩
def wd (z : Pt) : Int := z.re % 65536 + 65536 * (z.im % 65536)
def add (x y : Pt) : Pt := ⟨sh (x.re + y.re), sh (x.im + y.im)⟩
def mul (x y : Pt) : Pt := ⟨sh (x.re * y.re - x.im * y.im), sh (x.re * y.im + x.im * y.re)⟩
def turn1 (z : Pt) : Pt := mul z ⟨0, 1⟩
def turn (z : Pt) : Nat → Pt
  | 0 => z
  | k + 1 => turn1 (turn z k)
theorem ok_pt (v : Int) : okP (pt v) := ⟨sh_range _, sh_range _⟩
theorem ok_add (x y : Pt) : okP (add x y) := ⟨sh_range _, sh_range _⟩
theorem ok_mul (x y : Pt) : okP (mul x y) := ⟨sh_range _, sh_range _⟩
theorem pt_wd {z : Pt} (h : okP z) : pt (wd z) = z := by
  obtain ⟨a, b⟩ := z
  obtain ⟨h1, h2⟩ := h
  simp only at h1 h2
  unfold pt wd
  simp only
  congr 1
  · rw [show (a % 65536 + 65536 * (b % 65536)) % 65536 = a % 65536 by omega]
    unfold sh; omega
  · rw [show (a % 65536 + 65536 * (b % 65536)) / 65536 = b % 65536 by omega]
    unfold sh; omega
theorem wd_pt {v : Int} (h : 0 ≤ v ∧ v < 4294967296) : wd (pt v) = v := by
  unfold pt wd
  simp only [sh_mod]
  omega
theorem wd_range (z : Pt) : 0 ≤ wd z ∧ wd z < 4294967296 := by unfold wd; omega
theorem add_comm (x y : Pt) : add x y = add y x := by unfold add; rw [Int.add_comm, Int.add_comm x.im]
theorem mul_comm (x y : Pt) : mul x y = mul y x := by
  unfold mul
  rw [Int.mul_comm x.re, Int.mul_comm x.im, Int.mul_comm x.re, Int.mul_comm x.im, Int.add_comm (y.im * x.re)]
theorem add_assoc (x y z : Pt) : add (add x y) z = add x (add y z) := by
  unfold add
  simp only
  obtain ⟨q1, h1⟩ := sh_form (x.re + y.re)
  obtain ⟨q2, h2⟩ := sh_form (x.im + y.im)
  obtain ⟨q3, h3⟩ := sh_form (y.re + z.re)
  obtain ⟨q4, h4⟩ := sh_form (y.im + z.im)
  rw [h1, h2, h3, h4]
  congr 1
  · exact sh_like (q1 - q3) (by omega)
  · exact sh_like (q2 - q4) (by omega)
theorem mul_assoc (x y z : Pt) : mul (mul x y) z = mul x (mul y z) := by
  unfold mul
  simp only
  obtain ⟨q1, h1⟩ := sh_form (x.re * y.re - x.im * y.im)
  obtain ⟨q2, h2⟩ := sh_form (x.re * y.im + x.im * y.re)
  obtain ⟨q3, h3⟩ := sh_form (y.re * z.re - y.im * z.im)
  obtain ⟨q4, h4⟩ := sh_form (y.re * z.im + y.im * z.re)
  rw [h1, h2, h3, h4]
  congr 1
  · exact sh_like (q1 * z.re - q2 * z.im - x.re * q3 + x.im * q4) (by grind)
  · exact sh_like (q1 * z.im + q2 * z.re - x.re * q4 - x.im * q3) (by grind)
theorem mul_add (x y z : Pt) : mul x (add y z) = add (mul x y) (mul x z) := by
  unfold mul add
  simp only
  obtain ⟨q1, h1⟩ := sh_form (x.re * y.re - x.im * y.im)
  obtain ⟨q2, h2⟩ := sh_form (x.re * y.im + x.im * y.re)
  obtain ⟨q3, h3⟩ := sh_form (x.re * z.re - x.im * z.im)
  obtain ⟨q4, h4⟩ := sh_form (x.re * z.im + x.im * z.re)
  obtain ⟨q5, h5⟩ := sh_form (y.re + z.re)
  obtain ⟨q6, h6⟩ := sh_form (y.im + z.im)
  rw [h1, h2, h3, h4, h5, h6]
  congr 1
  · exact sh_like (x.re * q5 - x.im * q6 - q1 - q3) (by grind)
  · exact sh_like (x.re * q6 + x.im * q5 - q2 - q4) (by grind)
theorem add_zero {x : Pt} (h : okP x) : add x ⟨0, 0⟩ = x := by
  obtain ⟨a, b⟩ := x
  unfold add
  simp only [Int.add_zero]
  rw [sh_self h.1, sh_self h.2]
theorem mul_one {x : Pt} (h : okP x) : mul x ⟨1, 0⟩ = x := by
  obtain ⟨a, b⟩ := x
  unfold mul
  simp only [Int.mul_one, Int.mul_zero, Int.sub_zero, Int.zero_add]
  rw [sh_self h.1, sh_self h.2]
theorem turn1_is (z : Pt) : turn1 z = ⟨sh (-z.im), sh z.re⟩ := by
  unfold turn1 mul
  simp only [Int.mul_one, Int.mul_zero, Int.zero_sub, Int.add_zero]
theorem ok_turn {z : Pt} (h : okP z) (k : Nat) : okP (turn z k) := by
  cases k
  · exact h
  · exact ok_mul _ _
theorem turn_add (z : Pt) (j k : Nat) : turn z (j + k) = turn (turn z j) k := by
  induction k with
  | zero => rfl
  | succ k ih => exact congrArg turn1 ih
theorem turn_two (z : Pt) : turn z 2 = ⟨sh (-z.re), sh (-z.im)⟩ := by
  show turn1 (turn1 z) = _
  rw [turn1_is, turn1_is]
  simp only
  obtain ⟨q1, h1⟩ := sh_form (-z.im)
  obtain ⟨q2, h2⟩ := sh_form z.re
  rw [h1, h2]
  congr 1
  · exact sh_like (-q2) (by omega)
  · exact (sh_like q1 (by omega)).trans h1
theorem turn_four {z : Pt} (h : okP z) : turn z 4 = z := by
  rw [show (4 : Nat) = 2 + 2 from rfl, turn_add, turn_two, turn_two]
  obtain ⟨a, b⟩ := z
  simp only
  obtain ⟨q1, h1⟩ := sh_form (-a)
  obtain ⟨q2, h2⟩ := sh_form (-b)
  rw [h1, h2]
  congr 1
  · rw [sh_like (n := a) (-q1) (by omega), sh_self h.1]
  · rw [sh_like (n := b) (-q2) (by omega), sh_self h.2]
theorem turn_mod {z : Pt} (h : okP z) (k : Nat) : turn z k = turn z (k % 4) := by
  induction k using Nat.strongRecOn with
  | _ k ih =>
    by_cases hk : k < 4
    · rw [Nat.mod_eq_of_lt hk]
    · obtain ⟨j, rfl⟩ : ∃ j, k = 4 + j := ⟨k - 4, by omega⟩
      rw [turn_add, turn_four h, ih j (by omega), Nat.add_mod_left]
theorem add_turn_two {z : Pt} : add z (turn z 2) = ⟨0, 0⟩ := by
  rw [turn_two]
  unfold add
  simp only
  obtain ⟨q1, h1⟩ := sh_form (-z.re)
  obtain ⟨q2, h2⟩ := sh_form (-z.im)
  rw [h1, h2]
  congr 1
  · rw [sh_like (n := 0) q1 (by omega)]; decide
  · rw [sh_like (n := 0) q2 (by omega)]; decide
/-- Nothing is rounded: what is wrapped is below 2^53. -/
theorem no_round {x y : Pt} (hx : okP x) (hy : okP y) : (x.re * y.re).natAbs ≤ 1073741824 ∧ (x.im * y.im).natAbs ≤ 1073741824 ∧ (x.re * y.im).natAbs ≤ 1073741824 ∧ (x.im * y.re).natAbs ≤ 1073741824 := by
  have one : ∀ a b : Int, (-32768 ≤ a ∧ a ≤ 32767) → (-32768 ≤ b ∧ b ≤ 32767) → (a * b).natAbs ≤ 1073741824 := by
    intro a b ha hb
    rw [Int.natAbs_mul]
    exact Nat.mul_le_mul (show a.natAbs ≤ 32768 by omega) (show b.natAbs ≤ 32768 by omega)
  exact ⟨one _ _ hx.1 hy.1, one _ _ hx.2 hy.2, one _ _ hx.1 hy.2, one _ _ hx.2 hy.1⟩
/- The document's own half: its remainders are cut towards nought. -/
theorem tmod_lit (n : Int) : n.tmod 65536 = if 0 ≤ n then n % 65536 else -((-n) % 65536) := by
  by_cases h : 0 ≤ n
  · rw [if_pos h, Int.tmod_eq_emod_of_nonneg h]
  · rw [if_neg h, ← Int.tmod_eq_emod_of_nonneg (show 0 ≤ -n by omega), Int.neg_tmod, Int.neg_neg]
theorem ref_mod (n : Int) : (n.tmod 65536 + 65536).tmod 65536 = n % 65536 := by
  have h := tmod_lit n
  rw [tmod_lit (n.tmod 65536 + 65536), h]
  by_cases h0 : 0 ≤ n
  · simp only [if_pos h0]
    rw [if_pos (by omega)]
    omega
  · simp only [if_neg h0]
    rw [if_pos (by omega)]
    omega
theorem ref_short (n : Int) : (n.tmod 65536 + 65536 + 32768).tmod 65536 - 32768 = sh n := by
  have h := tmod_lit n
  rw [tmod_lit (n.tmod 65536 + 65536 + 32768), h]
  unfold sh
  by_cases h0 : 0 ≤ n
  · simp only [if_pos h0]
    rw [if_pos (by omega)]
    omega
  · simp only [if_neg h0]
    rw [if_pos (by omega)]
    omega
theorem wd_sh (a b : Int) : wd ⟨sh a, sh b⟩ = a % 65536 + 65536 * (b % 65536) := by
  unfold wd
  simp only [sh_mod]
/-- An int16 of a word's half is its short. -/
theorem low_short (v : Int) : sh (v % 65536) = if v % 65536 < 32768 then v % 65536 else v % 65536 - 65536 := by
  unfold sh
  by_cases h1 : v % 65536 < 32768
  · rw [if_pos h1]; omega
  · rw [if_neg h1]; omega
theorem i16_short (n : Int) : IntKind.i16.wrap n = sh n := by
  simp [IntKind.wrap, IntKind.bits, IntKind.signed, sh]
  omega
end Go.Proofs.Ytelmkfpomeilpaa.Ring
