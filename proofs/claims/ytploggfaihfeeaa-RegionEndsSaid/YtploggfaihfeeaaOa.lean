/- Plain mathematics of a word's bits: which are 1, in rising order; the least one. It imports nothing of the translation. -/
import Derived.Lib.TrailingZeros
import Derived.Laws.BitsAllLaws
namespace Go.Proofs.Ytploggfaihfeeaa.Word

/-- The numbers of the bits that are 1, rising. -/
def onesL (x : Nat) : List Nat := (List.range 32).filter fun i => x.testBit i
theorem onesL_zero : onesL 0 = [] := by decide
theorem onesL_mem {x i : Nat} : i ∈ onesL x ↔ i < 32 ∧ x.testBit i = true := by simp [onesL]
theorem onesL_len (x : Nat) : (onesL x).length ≤ 32 := by
  have := List.length_filter_le (fun i => x.testBit i) (List.range 32)
  simpa [onesL] using this
/-- Filtering a row of numbers: the first that passes, and the others. -/
theorem filter_first {p q : Nat → Bool} {k n : Nat} (hk : k < n) (hp : p k = true) (hlt : ∀ i, i < k → p i = false) (hq : ∀ i, i ≠ k → q i = p i) (hqk : q k = false) :
    (List.range n).filter p = k :: (List.range n).filter q := by
  obtain ⟨m, rfl⟩ : ∃ m, n = k + (1 + m) := ⟨n - k - 1, by omega⟩
  rw [List.range_add, List.range_add]
  have e1 : (List.range k).filter p = [] := by rw [List.filter_eq_nil_iff]; intro a ha; rw [hlt a (by simpa using ha)]; simp
  have e2 : (List.range k).filter q = [] := by
    rw [List.filter_eq_nil_iff]; intro a ha; have := hlt a (by simpa using ha)
    have h2 : a < k := by simpa using ha
    rw [hq a (by omega), this]; simp
  simp only [List.map_append, List.filter_append, e1, e2, List.nil_append]
  have e3 : (List.range 1).map (k + ·) = [k] := rfl
  rw [e3]
  have e4 : [k].filter p = [k] := by simp [hp]
  have e5 : [k].filter q = [] := by simp [hqk]
  rw [e4, e5, List.nil_append, List.singleton_append]
  congr 1
  refine List.filter_congr fun a ha => ?_
  simp only [List.mem_map] at ha
  obtain ⟨b, ⟨c, hc, rfl⟩, rfl⟩ := ha
  exact (hq _ (by omega)).symm
/-- x & (x - 1): all but the least 1. -/
theorem and_pred {x : Nat} (h0 : x ≠ 0) (h : x < 2 ^ 32) : x = 2 ^ Lib.ctz 32 x + (x &&& (x - 1)) ∧ (x &&& (x - 1)) < x ∧ (∀ i, (x &&& (x - 1)).testBit i = (x.testBit i && decide (i ≠ Lib.ctz 32 x))) ∧ x.testBit (Lib.ctz 32 x) = true ∧ ∀ i, i < Lib.ctz 32 x → x.testBit i = false := by
  obtain ⟨m, hm, hk⟩ := Lib.ctzFrom_spec 32 x (by omega) h
  have e : Lib.ctz 32 x = Lib.ctzFrom 32 x := by simp [Lib.ctz, h0]
  rw [e]
  generalize Lib.ctzFrom 32 x = k at *
  have hpos : 0 < 2 ^ k := Nat.pow_pos (by decide)
  have hx : x - 1 = 2 ^ k * (2 * m) + (2 ^ k - 1) := by rw [hm, Nat.mul_add, Nat.mul_one]; omega
  have hbx : ∀ i, x.testBit i = (decide (k ≤ i) && (2 * m + 1).testBit (i - k)) := fun i => by rw [hm, Nat.mul_comm, Nat.testBit_mul_two_pow]
  have hby : ∀ i, (2 ^ k * (2 * m)).testBit i = (decide (k ≤ i) && (2 * m).testBit (i - k)) := fun i => by rw [Nat.mul_comm, Nat.testBit_mul_two_pow]
  have hand : x &&& (x - 1) = 2 ^ k * (2 * m) := by
    apply Nat.eq_of_testBit_eq
    intro i
    rw [Nat.testBit_and, hbx, hby, hx, Nat.testBit_two_pow_mul_add _ (by omega)]
    by_cases hik : i < k
    · have hki : ¬ k ≤ i := by omega
      simp [hki]
    · have hki : k ≤ i := by omega
      simp only [hki, hik, decide_true, Bool.true_and, if_false]
      cases e : i - k with
      | zero => simp [Nat.testBit_zero]
      | succ j =>
        rw [Nat.testBit_succ, Nat.testBit_succ, show (2 * m + 1) / 2 = m by omega, show 2 * m / 2 = m by omega]
        simp
  rw [hand]
  refine ⟨by rw [hm]; rw [Nat.mul_add, Nat.mul_one]; omega, by rw [hm]; exact Nat.mul_lt_mul_of_pos_left (by omega) hpos, fun i => ?_, ?_, fun i hi => ?_⟩
  · rw [hbx, hby]
    by_cases hik : k ≤ i
    · simp only [hik, decide_true, Bool.true_and]
      cases e : i - k with
      | zero =>
        have : i = k := by omega
        simp [Nat.testBit_zero, this]
      | succ j =>
        rw [Nat.testBit_succ, Nat.testBit_succ, show (2 * m + 1) / 2 = m by omega, show 2 * m / 2 = m by omega]
        have : i ≠ k := by omega
        simp [this]
    · simp [hik]
  · rw [hbx]; simp [Nat.testBit_zero]
  · rw [hbx]; simp; omega
theorem onesL_step {x : Nat} (h0 : x ≠ 0) (h : x < 2 ^ 32) : onesL x = Lib.ctz 32 x :: onesL (x &&& (x - 1)) := by
  obtain ⟨_, _, h3, h4, h5⟩ := and_pred h0 h
  have hk := (Lib.lowest_bit 32 x h0 h).2
  exact filter_first hk h4 h5 (fun i hi => by rw [h3]; simp [hi]) (by rw [h3]; simp)
theorem onesL_ne {x : Nat} (h0 : x ≠ 0) (h : x < 2 ^ 32) : onesL x ≠ [] := by rw [onesL_step h0 h]; simp
/-- The sum of its bits is the word. -/
theorem onesL_sum : ∀ (n x : Nat), x < n → x < 2 ^ 32 → ((onesL x).map (2 ^ ·)).sum = x
  | 0, _, h, _ => by omega
  | n + 1, x, hn, h => by
    by_cases h0 : x = 0
    · subst h0; rw [onesL_zero]; rfl
    · obtain ⟨h1, h2, _⟩ := and_pred h0 h
      rw [onesL_step h0 h, List.map_cons, List.sum_cons, onesL_sum n _ (by omega) (by omega)]
      exact h1.symm
theorem onesL_rising (x : Nat) : (onesL x).Pairwise (· < ·) := List.Pairwise.filter _ List.pairwise_lt_range
theorem tz_key (x a : Nat) (hx : x < 4294967296) (hlow : x &&& (4294967296 - x) = a) (h0 : x ≠ 0) :
    bits BinOp.and IntKind.u32 (x : Int) (-(x : Int) % 4294967296) * 125613361 % 4294967296 / 134217728 = ((a * 125613361 % 4294967296 / 134217728 : Nat) : Int) := by
  have e1 : -(x : Int) % 4294967296 = ((4294967296 - x : Nat) : Int) := by omega
  rw [e1, u32_and_nat x _ hx (by omega), hlow]
  omega
theorem pred_and (x : Nat) (hx : x < 4294967296) (h0 : x ≠ 0) : bits BinOp.and IntKind.u32 (x : Int) ((x : Int) - 1) = ((x &&& (x - 1) : Nat) : Int) := by
  rw [show ((x : Int) - 1) = ((x - 1 : Nat) : Int) from by omega, u32_and_nat x _ hx (by omega)]

/-- The sum of the first k bits. -/
def psum (l : List Nat) (k : Nat) : Nat := ((l.take k).map (2 ^ ·)).sum
theorem psum_succ {l : List Nat} {k : Nat} (h : k < l.length) : psum l (k + 1) = psum l k + 2 ^ l.getD k 0 := by
  unfold psum
  rw [List.take_add_one, List.getElem?_eq_getElem h, List.map_append, List.sum_append]
  simp [List.getD_eq_getElem?_getD, h]
theorem psum_all (l : List Nat) {k : Nat} (h : l.length ≤ k) : psum l k = (l.map (2 ^ ·)).sum := by unfold psum; rw [List.take_of_length_le h]
theorem psum_mono (l : List Nat) : ∀ (n k : Nat), psum l k ≤ psum l (k + n)
  | 0, k => Nat.le_refl _
  | n + 1, k => by
    refine Nat.le_trans (psum_mono l n k) ?_
    by_cases h : k + n < l.length
    · rw [← Nat.add_assoc, psum_succ h]; exact Nat.le_add_right _ _
    · rw [psum_all l (k := k + n) (by omega), psum_all l (k := k + (n + 1)) (by omega)]; exact Nat.le_refl _
theorem psum_le (x k : Nat) (hx : x < 4294967296) : psum (onesL x) k ≤ x := by
  have h1 := psum_mono (onesL x) (onesL x).length k
  rw [psum_all (onesL x) (k := k + (onesL x).length) (by omega), onesL_sum (x + 1) x (by omega) (by omega)] at h1
  exact h1
theorem psum_end (x : Nat) (hx : x < 4294967296) : psum (onesL x) (onesL x).length = x := by
  rw [psum_all _ (Nat.le_refl _), onesL_sum (x + 1) x (by omega) (by omega)]
theorem onesL_at (x : Nat) {k : Nat} (h : k < (onesL x).length) : (onesL x).getD k 0 ≤ 31 := by
  have : (onesL x).getD k 0 ∈ onesL x := by simp [List.getD_eq_getElem?_getD, h]
  have := (onesL_mem.1 this).1
  omega
theorem onesL_lt (x : Nat) {k : Nat} (h : k + 1 < (onesL x).length) : (onesL x).getD k 0 < (onesL x).getD (k + 1) 0 := by
  have := (List.pairwise_iff_getElem.1 (onesL_rising x)) k (k + 1) (by omega) h (by omega)
  simpa [List.getD_eq_getElem?_getD, h, show k < (onesL x).length by omega] using this
theorem sum_wrap {sv y : Nat} (h : sv + 2 ^ y < 4294967296) : ((sv : Int) + 2 ^ y % 4294967296) % 4294967296 = ((sv + 2 ^ y : Nat) : Int) := by
  have e : (2 : Int) ^ y = ((2 ^ y : Nat) : Int) := by simp
  rw [e]
  generalize (2 : Nat) ^ y = p at *
  omega
end Go.Proofs.Ytploggfaihfeeaa.Word
