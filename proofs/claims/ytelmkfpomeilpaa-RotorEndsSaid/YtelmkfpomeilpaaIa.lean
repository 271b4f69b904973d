/- Whole numbers as floats of 64 bits: sums, differences, products are exact below 2^53; order; to an integer. -/
import Derived.Laws.FloatArith
namespace Go.Proofs.Ytelmkfpomeilpaa.Exact
open Ieee

theorem log2_shift {n k : Nat} (h : n ≠ 0) : (n * 2 ^ k).log2 = n.log2 + k := by
  have hk : 0 < 2 ^ k := Nat.two_pow_pos k
  rw [Nat.log2_eq_iff (Nat.mul_ne_zero h (by omega))]
  have h1 := Nat.log2_self_le h
  have h2 := @Nat.lt_log2_self n
  constructor
  · rw [Nat.pow_add]
    exact Nat.mul_le_mul_right _ h1
  · rw [show n.log2 + k + 1 = (n.log2 + 1) + k by omega, Nat.pow_add]
    exact Nat.mul_lt_mul_of_pos_right h2 hk
theorem cut_exact (way : Toward) (s : Bool) {a : Nat} (d : Nat) (ha : a ≠ 0) : way.cut s (a * 2 ^ d) d = a := by
  unfold Toward.cut
  have h : min d ((a * 2 ^ d).log2 + 2) = d := by rw [log2_shift ha]; omega
  have hp := Nat.two_pow_pos d
  simp only [h, Nat.one_shiftLeft]
  rw [Nat.mul_div_cancel _ hp, Nat.mul_mod_left]
  cases way <;> simp
theorem cut_nought (way : Toward) (s : Bool) (d : Nat) : way.cut s 0 d = 0 := by
  unfold Toward.cut
  have hp := Nat.two_pow_pos (min d (Nat.log2 0 + 2))
  simp only [Nat.one_shiftLeft, Nat.zero_div, Nat.zero_mod]
  cases way <;> simp

theorem c_sign : double.signWeight = 9223372036854775808 := rfl
theorem c_bin : double.binade = 4503599627370496 := rfl
theorem c_inf : double.infRung = 9218868437227405312 := rfl
theorem c_least : double.leastPlace = -1074 := rfl
theorem read_word (s : Bool) (d M : Nat) (hd : d ≤ 1074) (h1 : 4503599627370496 ≤ M) (h2 : M < 9007199254740992) : double.read (double.word s ((1074 - d) * 4503599627370496 + M)) = .number s M (-(d : Int)) := by
  obtain ⟨q, hq, hq2⟩ : ∃ q, (1074 - d) * 4503599627370496 + M = q ∧ q = (1074 - d) * 4503599627370496 + M := ⟨_, rfl, rfl⟩
  have hw : double.word s q / double.signWeight % 2 = s.toNat ∧ double.word s q % double.signWeight = q := by
    rw [c_sign]
    cases s <;> simp only [Format.word, c_sign] <;> constructor <;> simp <;> omega
  rw [hq]
  unfold Format.read
  simp only [hw.1, hw.2, c_bin, c_inf, c_least]
  rw [if_neg (by omega), if_pos (by omega)]
  have e1 : (s.toNat == 1) = s := by cases s <;> rfl
  have e2 : 4503599627370496 + q % 4503599627370496 = M := by omega
  have e3 : (-1074 : Int) + ((q / 4503599627370496 - 1 : Nat) : Int) = -(d : Int) := by omega
  rw [e1, e2, e3]
theorem read_nought (s : Bool) : double.read (double.word s 0) = .number s 0 (-1074) := by cases s <;> decide

/-- A datum that is the whole number n. -/
def DenD (d : Datum) (n : Int) : Prop := ∃ (s : Bool) (k : Nat), d = .number s (n.natAbs * 2 ^ k) (-(k : Int)) ∧ (n ≠ 0 → s = decide (n < 0))
/-- A word that is the whole number n. -/
def Den (x : Nat) (n : Int) : Prop := DenD (double.read x) n

theorem nought_den (s : Bool) (k : Nat) : DenD (.number s 0 (-(k : Int))) 0 := ⟨s, k, by rw [show Int.natAbs 0 = 0 from rfl, Nat.zero_mul], fun h => absurd rfl h⟩
theorem den_write {d : Datum} {n : Int} (h : DenD d n) (hn : n.natAbs < 9007199254740992) : Den (double.write d) n := by
  obtain ⟨s, k, rfl, hs⟩ := h
  unfold Den
  simp only [Format.write]
  by_cases h0 : n = 0
  · subst h0
    unfold Format.nearest
    rw [if_pos (by simp), read_nought]
    exact nought_den s 1074
  · obtain ⟨a, ha⟩ : ∃ a, n.natAbs = a := ⟨_, rfl⟩
    have ha0 : a ≠ 0 := by omega
    rw [ha] at hn
    have hl : a.log2 < 53 := (Nat.log2_lt ha0).2 hn
    obtain ⟨d, hd⟩ : ∃ d, 52 - a.log2 = d := ⟨_, rfl⟩
    have hlo : 4503599627370496 ≤ a * 2 ^ d := by
      have := Nat.mul_le_mul_right (2 ^ d) (Nat.log2_self_le ha0)
      rw [← Nat.pow_add, show a.log2 + d = 52 by omega] at this
      exact this
    have hhi : a * 2 ^ d < 9007199254740992 := by
      have := Nat.mul_lt_mul_of_pos_right (@Nat.lt_log2_self a) (Nat.two_pow_pos d)
      rw [← Nat.pow_add, show a.log2 + 1 + d = 53 by omega] at this
      exact this
    have hm0 : a * 2 ^ k ≠ 0 := Nat.mul_ne_zero ha0 (by have := Nat.two_pow_pos k; omega)
    have hlast : max (-(k : Int) + ((a * 2 ^ k).log2 : Int) - (double.fractionBits : Int)) double.leastPlace = -(d : Int) := by
      rw [log2_shift ha0, c_least, show (double.fractionBits : Int) = 52 from rfl]
      omega
    have hkept : Toward.even.cut s ((a * 2 ^ k) <<< (-(k : Int) - -(d : Int)).toNat) (-(d : Int) - -(k : Int)).toNat = a * 2 ^ d := by
      have : (a * 2 ^ k) <<< (-(k : Int) - -(d : Int)).toNat = (a * 2 ^ d) * 2 ^ (-(d : Int) - -(k : Int)).toNat := by
        rw [Nat.shiftLeft_eq, Nat.mul_assoc, Nat.mul_assoc, ← Nat.pow_add, ← Nat.pow_add]
        congr 2
        omega
      rw [this]
      exact cut_exact _ _ _ (by omega)
    unfold Format.nearest
    rw [ha, if_neg hm0]
    simp only [hlast, hkept]
    rw [c_least, c_bin, c_inf, show (-(d : Int) - -1074).toNat = 1074 - d by omega, Nat.min_eq_left (by omega), read_word s d _ (by omega) hlo hhi]
    exact ⟨s, d, by rw [ha], hs⟩

theorem signed_den {s : Bool} {n : Int} (hs : n ≠ 0 → s = decide (n < 0)) (k p : Nat) : signed s (n.natAbs * 2 ^ k) p = n * 2 ^ (k + p) := by
  unfold signed
  rw [Nat.shiftLeft_eq, Nat.mul_assoc, ← Nat.pow_add]
  by_cases h0 : n = 0
  · subst h0
    simp
  · rw [hs h0]
    by_cases hn : n < 0
    · rw [if_pos (by simpa using hn)]
      push_cast
      rw [show ((n.natAbs : Nat) : Int) = -n by omega, Int.neg_mul, Int.neg_neg]
    · rw [if_neg (by simpa using hn)]
      push_cast
      rw [show ((n.natAbs : Nat) : Int) = n by omega]
theorem pow_pos (k : Nat) : (0 : Int) < 2 ^ k := by
  have := Nat.two_pow_pos k
  exact_mod_cast this
theorem lift_mul (n : Int) (k : Nat) : (n * 2 ^ k).natAbs = n.natAbs * 2 ^ k := by rw [Int.natAbs_mul, Int.natAbs_pow]; rfl
theorem lift_neg (n : Int) (k : Nat) : n * 2 ^ k < 0 ↔ n < 0 := by
  have := Int.mul_lt_mul_right (b := n) (c := 0) (pow_pos k)
  rwa [Int.zero_mul] at this
theorem lift_zero (n : Int) (k : Nat) : n * 2 ^ k = 0 ↔ n = 0 := by
  have := pow_pos k
  constructor
  · intro h
    rcases Int.mul_eq_zero.1 h with h | h <;> omega
  · rintro rfl
    exact Int.zero_mul _

theorem sum_den {d e : Datum} {a b : Int} (hd : DenD d a) (he : DenD e b) : ∃ r, d.sum e = some r ∧ DenD r (a + b) := by
  obtain ⟨s, i, rfl, hs⟩ := hd
  obtain ⟨t, j, rfl, ht⟩ := he
  obtain ⟨k, hk⟩ : ∃ k, max i j = k := ⟨_, rfl⟩
  have hb : min (-(i : Int)) (-(j : Int)) = -(k : Int) := by omega
  refine ⟨_, rfl, ?_⟩
  simp only [hb]
  rw [signed_den hs, signed_den ht, show i + (-(i : Int) - -(k : Int)).toNat = k by omega, show j + (-(j : Int) - -(k : Int)).toNat = k by omega, ← Int.add_mul, lift_mul]
  refine ⟨_, k, rfl, fun h => ?_⟩
  rw [if_neg (fun h' => h ((lift_zero _ _).1 h'))]
  exact decide_eq_decide.2 (lift_neg _ _)
theorem opposite_den {d : Datum} {a : Int} (hd : DenD d a) : DenD d.opposite (-a) := by
  obtain ⟨s, i, rfl, hs⟩ := hd
  refine ⟨!s, i, by rw [Int.natAbs_neg]; rfl, fun h => ?_⟩
  rw [hs (by omega)]
  by_cases h1 : a < 0
  · rw [decide_eq_true h1, decide_eq_false (by omega)]; rfl
  · rw [decide_eq_false h1, decide_eq_true (by omega)]; rfl
theorem product_den {d e : Datum} {a b : Int} (hd : DenD d a) (he : DenD e b) : ∃ r, d.product e = some r ∧ DenD r (a * b) := by
  obtain ⟨s, i, rfl, hs⟩ := hd
  obtain ⟨t, j, rfl, ht⟩ := he
  refine ⟨_, rfl, s ^^ t, i + j, ?_, fun h => ?_⟩
  · rw [Int.natAbs_mul, show a.natAbs * 2 ^ i * (b.natAbs * 2 ^ j) = a.natAbs * b.natAbs * 2 ^ (i + j) by rw [Nat.pow_add]; ac_rfl, show -(i : Int) + -(j : Int) = -((i + j : Nat) : Int) by omega]
  · have ha : a ≠ 0 := fun h' => h (by rw [h', Int.zero_mul])
    have hb : b ≠ 0 := fun h' => h (by rw [h', Int.mul_zero])
    rw [hs ha, ht hb]
    by_cases h1 : a < 0 <;> by_cases h2 : b < 0
    · have := Int.mul_pos_of_neg_of_neg h1 h2
      rw [decide_eq_true h1, decide_eq_true h2, decide_eq_false (by omega)]; rfl
    · have := Int.mul_neg_of_neg_of_pos h1 (show 0 < b by omega)
      rw [decide_eq_true h1, decide_eq_false h2, decide_eq_true this]; rfl
    · have := Int.mul_neg_of_pos_of_neg (show 0 < a by omega) h2
      rw [decide_eq_false h1, decide_eq_true h2, decide_eq_true this]; rfl
    · have := Int.mul_pos (show 0 < a by omega) (show 0 < b by omega)
      rw [decide_eq_false h1, decide_eq_false h2, decide_eq_false (by omega)]; rfl
theorem cmp_lift (a b : Int) (k : Nat) : compare (a * 2 ^ k) (b * 2 ^ k) = compare a b := by
  have h1 := Int.mul_lt_mul_right (b := a) (c := b) (pow_pos k)
  have h2 : a * 2 ^ k = b * 2 ^ k ↔ a = b := ⟨fun h => Int.eq_of_mul_eq_mul_right (by have := pow_pos k; omega) h, fun h => by rw [h]⟩
  show compareOfLessAndEq _ _ = compareOfLessAndEq _ _
  unfold compareOfLessAndEq
  simp only [h1, h2]
theorem order_den {d e : Datum} {a b : Int} (hd : DenD d a) (he : DenD e b) : d.order e = some (compare a b) := by
  obtain ⟨s, i, rfl, hs⟩ := hd
  obtain ⟨t, j, rfl, ht⟩ := he
  obtain ⟨k, hk⟩ : ∃ k, max i j = k := ⟨_, rfl⟩
  have hb : min (-(i : Int)) (-(j : Int)) = -(k : Int) := by omega
  unfold Datum.order
  simp only [hb]
  rw [signed_den hs, signed_den ht, show i + (-(i : Int) - -(k : Int)).toNat = k by omega, show j + (-(j : Int) - -(k : Int)).toNat = k by omega, cmp_lift]
theorem toInt_den {d : Datum} {n : Int} (hd : DenD d n) : d.toInt .zero = some n := by
  obtain ⟨s, k, rfl, hs⟩ := hd
  unfold Datum.toInt
  simp only [Datum.integral]
  rw [show (-(k : Int)).toNat = 0 by omega, Nat.shiftLeft_zero, show (- -(k : Int)).toNat = k by omega]
  by_cases h0 : n = 0
  · subst h0
    rw [show Int.natAbs 0 = 0 from rfl, Nat.zero_mul, cut_nought]
    cases s <;> rfl
  · rw [cut_exact _ _ _ (by omega)]
    have := signed_den hs 0 0
    rw [Nat.pow_zero, Nat.mul_one] at this
    rw [this]
    simp

theorem den_int {n : Int} (hn : n.natAbs < 9007199254740992) : Den (floatOfInt .f64 n) n :=
  den_write (d := .number (decide (n < 0)) n.natAbs 0) ⟨decide (n < 0), 0, by rw [Nat.pow_zero, Nat.mul_one]; rfl, fun _ => rfl⟩ hn
theorem add_den {x y : Nat} {a b : Int} (hx : Den x a) (hy : Den y b) (h : (a + b).natAbs < 9007199254740992) : ∃ r, floatBits .add .f64 x y = some r ∧ Den r (a + b) := by
  obtain ⟨r, e, hr⟩ := sum_den hx hy
  exact ⟨double.write r, by show Option.map double.write ((double.read x).sum (double.read y)) = _; rw [e]; rfl, den_write hr h⟩
theorem sub_den {x y : Nat} {a b : Int} (hx : Den x a) (hy : Den y b) (h : (a - b).natAbs < 9007199254740992) : ∃ r, floatBits .sub .f64 x y = some r ∧ Den r (a - b) := by
  obtain ⟨r, e, hr⟩ := sum_den hx (opposite_den hy)
  exact ⟨double.write r, by show Option.map double.write ((double.read x).sum (double.read y).opposite) = _; rw [e]; rfl, den_write (by rw [Int.sub_eq_add_neg]; exact hr) h⟩
theorem mul_den {x y : Nat} {a b : Int} (hx : Den x a) (hy : Den y b) (h : (a * b).natAbs < 9007199254740992) : ∃ r, floatBits .mul .f64 x y = some r ∧ Den r (a * b) := by
  obtain ⟨r, e, hr⟩ := product_den hx hy
  exact ⟨double.write r, by show Option.map double.write ((double.read x).product (double.read y)) = _; rw [e]; rfl, den_write hr h⟩
theorem to_int_den {x : Nat} {n : Int} {k : IntKind} (hx : Den x n) (h : k.min ≤ n ∧ n ≤ k.max) : floatToIntVal .f64 x k = some n := by
  unfold floatToIntVal
  rw [show (FloatKind.f64.decode x).toInt .zero = some n from toInt_den hx]
  simp [h]
theorem ord_den {x y : Nat} {a b : Int} (hx : Den x a) (hy : Den y b) : double.order x y = some (compare a b) := order_den hx hy
theorem den_one {x : Nat} {a b : Int} (h : Den x a) (k : Den x b) : a = b := by
  have := (toInt_den h).symm.trans (toInt_den k)
  injection this
/-- What a word can be. -/
theorem read_cases (x : Nat) : (∃ s f, double.read x = .nan s f) ∨ (∃ s, double.read x = .infinity s) ∨ ∃ (s : Bool) (m : Nat) (e : Int), double.read x = .number s m e ∧ -1074 ≤ e ∧ (0 < e → 4503599627370496 ≤ m) := by
  by_cases h1 : x % double.signWeight < double.binade
  · refine .inr (.inr ⟨x / double.signWeight % 2 == 1, x % double.signWeight, -1074, ?_, by omega, by omega⟩)
    unfold Format.read
    simp only
    rw [if_pos h1, c_least]
  · by_cases h2 : x % double.signWeight < double.infRung
    · refine .inr (.inr ⟨x / double.signWeight % 2 == 1, double.binade + x % double.signWeight % double.binade, -1074 + ((x % double.signWeight / double.binade - 1 : Nat) : Int), ?_, by omega, by rw [c_bin]; omega⟩)
      unfold Format.read
      simp only
      rw [if_neg h1, if_pos h2, c_least]
    · by_cases h3 : x % double.signWeight = double.infRung
      · refine .inr (.inl ⟨x / double.signWeight % 2 == 1, ?_⟩)
        unfold Format.read
        simp only
        rw [if_neg h1, if_neg h2, if_pos h3]
      · refine .inl ⟨x / double.signWeight % 2 == 1, x % double.signWeight - double.infRung, ?_⟩
        unfold Format.read
        simp only
        rw [if_neg h1, if_neg h2, if_neg h3]
theorem signed_up (s : Bool) (m p q : Nat) : signed s m p * 2 ^ q = signed s m (p + q) := by
  unfold signed
  cases s <;> simp [Nat.shiftLeft_eq, Nat.pow_add, Int.neg_mul, Int.mul_assoc]
theorem order_up {s t : Bool} {m n : Nat} {i j : Int} (hi : -1074 ≤ i) (hj : -1074 ≤ j) : (Datum.number s m i).order (.number t n j) = some (compare (signed s m (i + 1074).toNat) (signed t n (j + 1074).toNat)) := by
  unfold Datum.order
  simp only
  rw [← cmp_lift _ _ (min i j + 1074).toNat, signed_up, signed_up, show (i - min i j).toNat + (min i j + 1074).toNat = (i + 1074).toNat by omega, show (j - min i j).toNat + (min i j + 1074).toNat = (j + 1074).toNat by omega]
theorem signed_abs (s : Bool) (m p : Nat) : (signed s m p).natAbs = m * 2 ^ p := by
  have h : (((m * 2 ^ p : Nat) : Int)).natAbs = m * 2 ^ p := Int.natAbs_natCast _
  unfold signed
  rw [Nat.shiftLeft_eq]
  cases s
  · rw [if_neg (by decide)]
    exact h
  · rw [if_pos rfl, Int.natAbs_neg]
    exact h
theorem signed_sign {s : Bool} {m p : Nat} (h : m ≠ 0) : s = decide (signed s m p < 0) := by
  have h1 : 0 < m * 2 ^ p := Nat.mul_pos (by omega) (Nat.two_pow_pos p)
  unfold signed
  rw [Nat.shiftLeft_eq]
  cases s
  · rw [if_neg (by decide)]
    exact (decide_eq_false (by omega)).symm
  · rw [if_pos rfl]
    exact (decide_eq_true (by omega)).symm
/-- A number that stands equal to a whole one is that. -/
theorem den_up {s : Bool} {m : Nat} {e : Int} {n : Int} (he : -1074 ≤ e) (hm : 0 < e → 4503599627370496 ≤ m) (hn : n.natAbs < 9007199254740992) (h : signed s m (e + 1074).toNat = n * 2 ^ 1074) : DenD (.number s m e) n := by
  have ha := congrArg Int.natAbs h
  rw [signed_abs, lift_mul] at ha
  have he0 : e ≤ 0 := by
    by_cases hp : 0 < e
    · exfalso
      have h1 := hm hp
      rw [show (e + 1074).toNat = e.toNat + 1074 by omega, Nat.pow_add, ← Nat.mul_assoc] at ha
      have h2 := Nat.eq_of_mul_eq_mul_right (Nat.two_pow_pos 1074) ha
      have h3 : 2 ^ 1 ≤ 2 ^ e.toNat := Nat.pow_le_pow_right (by omega) (by omega)
      have h4 := Nat.mul_le_mul h1 h3
      omega
    · omega
  obtain ⟨k, rfl⟩ : ∃ k : Nat, e = -(k : Int) := ⟨e.natAbs, by omega⟩
  have hk : (-(k : Int) + 1074).toNat + k = 1074 := by omega
  have h5 : m = n.natAbs * 2 ^ k := by
    refine Nat.eq_of_mul_eq_mul_right (Nat.two_pow_pos (-(k : Int) + 1074).toNat) ?_
    rw [ha, Nat.mul_assoc, ← Nat.pow_add, Nat.add_comm k, hk]
  refine ⟨s, k, by rw [h5], fun hn0 => ?_⟩
  have hm0 : m ≠ 0 := by
    rw [h5]
    exact Nat.mul_ne_zero (by omega) (by have := Nat.two_pow_pos k; omega)
  rw [signed_sign (s := s) (p := (-(k : Int) + 1074).toNat) hm0, h]
  exact decide_eq_decide.2 (lift_neg _ _)
/-- The whole number as a word lies at a place that is not above. -/
theorem den_place {x : Nat} {n : Int} (h : Den x n) : ∃ (s : Bool) (m : Nat) (e : Int), double.read x = .number s m e ∧ -1074 ≤ e ∧ signed s m (e + 1074).toNat = n * 2 ^ 1074 := by
  obtain ⟨s, k, hr, hs⟩ := h
  have hk : -1074 ≤ -(k : Int) := by
    rcases read_cases x with ⟨s', f, h⟩ | ⟨s', h⟩ | ⟨s', m, e, h, h1, _⟩
    · rw [hr] at h; cases h
    · rw [hr] at h; cases h
    · rw [hr] at h
      injection h with _ _ h3
      omega
  exact ⟨s, _, _, hr, hk, by rw [signed_den hs, show k + (-(k : Int) + 1074).toNat = 1074 by omega]⟩
theorem eq_den {x y : Nat} {n : Int} (hy : Den y n) (hn : n.natAbs < 9007199254740992) (h : double.order x y = some .eq) : Den x n := by
  obtain ⟨t, m', e', hr', he', hv'⟩ := den_place hy
  unfold Format.order at h
  rw [hr'] at h
  rcases read_cases x with ⟨s, f, hr⟩ | ⟨s, hr⟩ | ⟨s, m, e, hr, he, hm⟩
  · rw [hr] at h; simp [Datum.order] at h
  · rw [hr] at h; cases s <;> simp [Datum.order] at h
  · rw [hr, order_up he he'] at h
    unfold Den
    rw [hr]
    refine den_up he hm hn ?_
    rw [← hv']
    injection h with h
    have : compareOfLessAndEq (signed s m (e + 1074).toNat) (signed t m' (e' + 1074).toNat) = .eq := h
    unfold compareOfLessAndEq at this
    split at this
    · cases this
    · split at this
      · assumption
      · cases this
theorem cut_zero (s : Bool) (m d : Nat) : Toward.zero.cut s m d = m / 2 ^ d := by
  unfold Toward.cut
  simp only [Nat.one_shiftLeft]
  rw [show (false).toNat = 0 from rfl, Nat.add_zero]
  by_cases h : d ≤ m.log2 + 2
  · rw [Nat.min_eq_left h]
  · have h1 : m < 2 ^ (m.log2 + 2) := Nat.lt_trans (@Nat.lt_log2_self m) (Nat.pow_lt_pow_right (by omega) (by omega))
    rw [Nat.min_eq_right (by omega), Nat.div_eq_of_lt h1, Nat.div_eq_of_lt (Nat.lt_trans h1 (Nat.pow_lt_pow_right (by omega) (by omega)))]
/-- A number between two whole ones, cut towards nought, is between them. -/
theorem cut_between {s : Bool} {m : Nat} {e : Int} (he : -1074 ≤ e) {b : Nat} (h : (signed s m (e + 1074).toNat).natAbs ≤ b * 2 ^ 1074) : ∃ t : Nat, t ≤ b ∧ (Datum.number s m e).toInt .zero = some (signed s t 0) := by
  rw [signed_abs] at h
  unfold Datum.toInt
  simp only [Datum.integral]
  refine ⟨_, ?_, rfl⟩
  rw [cut_zero, Nat.shiftLeft_eq]
  refine Nat.div_le_of_le_mul ?_
  refine Nat.le_of_mul_le_mul_right ?_ (Nat.two_pow_pos (1074 - (-e).toNat))
  rw [Nat.mul_assoc, ← Nat.pow_add, show e.toNat + (1074 - (-e).toNat) = (e + 1074).toNat by omega, Nat.mul_comm (2 ^ _) b, Nat.mul_assoc, ← Nat.pow_add, show (-e).toNat + (1074 - (-e).toNat) = 1074 by omega]
  exact h
theorem cmp_int (a b : Int) : (compare a b = .eq ↔ a = b) ∧ (compare a b = .lt ↔ a < b) ∧ (compare a b = .gt ↔ b < a) := by
  show (compareOfLessAndEq a b = .eq ↔ _) ∧ (compareOfLessAndEq a b = .lt ↔ _) ∧ (compareOfLessAndEq a b = .gt ↔ _)
  unfold compareOfLessAndEq
  by_cases h1 : a < b
  · rw [if_pos h1]
    exact ⟨⟨fun h => (by cases h), fun h => (by omega)⟩, ⟨fun _ => h1, fun _ => rfl⟩, ⟨fun h => (by cases h), fun h => (by omega)⟩⟩
  · rw [if_neg h1]
    by_cases h2 : a = b
    · rw [if_pos h2]
      exact ⟨⟨fun _ => h2, fun _ => rfl⟩, ⟨fun h => (by cases h), fun h => (by omega)⟩, ⟨fun h => (by cases h), fun h => (by omega)⟩⟩
    · rw [if_neg h2]
      exact ⟨⟨fun h => (by cases h), fun h => (by omega)⟩, ⟨fun h => (by cases h), fun h => (by omega)⟩, ⟨fun _ => by omega, fun _ => rfl⟩⟩
theorem eq_turn {x y : Nat} (h : double.order x y = some .eq) : double.order y x = some .eq := by
  unfold Format.order at *
  rcases read_cases x with ⟨s, f, hx⟩ | ⟨s, hx⟩ | ⟨s, m, i, hx, hi, _⟩
  · rw [hx] at h; simp [Datum.order] at h
  · rcases read_cases y with ⟨t, f, hy⟩ | ⟨t, hy⟩ | ⟨t, n, j, hy, hj, _⟩
    · rw [hx, hy] at h; simp [Datum.order] at h
    · rw [hx, hy] at h ⊢
      cases s <;> cases t <;> first | exact h | (simp [Datum.order] at h; done) | (exact absurd h (by decide))
    · rw [hx, hy] at h; cases s <;> simp [Datum.order] at h
  · rcases read_cases y with ⟨t, f, hy⟩ | ⟨t, hy⟩ | ⟨t, n, j, hy, hj, _⟩
    · rw [hx, hy] at h; simp [Datum.order] at h
    · rw [hx, hy] at h; cases t <;> simp [Datum.order] at h
    · rw [hx, hy, order_up hi hj] at h
      rw [hx, hy, order_up hj hi]
      injection h with h
      rw [((cmp_int _ _).1).1 h]
      exact congrArg some (((cmp_int _ _).1).2 rfl)
/-- A word is a short, or it is told that it is none by one of three questions. -/
theorem short_cases (x : Nat) {l h : Nat} (hl : Den l (-32768)) (hh : Den h 32767) : (∃ n, Den x n ∧ -32768 ≤ n ∧ n ≤ 32767) ∨ (¬ (∃ n, Den x n ∧ -32768 ≤ n ∧ n ≤ 32767) ∧ ((double.order x l ≠ some .eq ∧ double.order x l ≠ some .gt) ∨ (double.order x h ≠ some .eq ∧ double.order x h ≠ some .lt) ∨ ((double.order x l = some .eq ∨ double.order x l = some .gt) ∧ (double.order x h = some .eq ∨ double.order x h = some .lt) ∧ ∃ t : Int, -32768 ≤ t ∧ t ≤ 32768 ∧ (double.read x).toInt .zero = some t ∧ double.order x (floatOfInt .f64 t) ≠ some .eq ∧ double.order (floatOfInt .f64 t) x ≠ some .eq))) := by
  by_cases hw : ∃ n, Den x n ∧ -32768 ≤ n ∧ n ≤ 32767
  · exact .inl hw
  refine .inr ⟨hw, ?_⟩
  by_cases h1 : double.order x l = some .eq ∨ double.order x l = some .gt
  · by_cases h2 : double.order x h = some .eq ∨ double.order x h = some .lt
    · refine .inr (.inr ⟨h1, h2, ?_⟩)
      obtain ⟨sl, ml, el, rl, gl, vl⟩ := den_place hl
      obtain ⟨sh, mh, eh, rh, gh, vh⟩ := den_place hh
      rcases read_cases x with ⟨s, f, hx⟩ | ⟨s, hx⟩ | ⟨s, m, i, hx, hi, _⟩
      · exfalso
        unfold Format.order at h1
        rw [hx] at h1
        simp [Datum.order] at h1
      · exfalso
        unfold Format.order at h1 h2
        rw [hx, rl] at h1
        rw [hx, rh] at h2
        cases s <;> simp [Datum.order] at h1 h2
      · have hB : (0 : Int) < 2 ^ 1074 := pow_pos 1074
        have b1 : -32768 * 2 ^ 1074 ≤ signed s m (i + 1074).toNat := by
          unfold Format.order at h1
          rw [hx, rl, order_up hi gl, vl] at h1
          exact h1.elim (fun h => Int.le_of_eq ((cmp_int _ _).1.1 (Option.some.inj h)).symm) (fun h => Int.le_of_lt ((cmp_int _ _).2.2.1 (Option.some.inj h)))
        have b2 : signed s m (i + 1074).toNat ≤ 32767 * 2 ^ 1074 := by
          unfold Format.order at h2
          rw [hx, rh, order_up hi gh, vh] at h2
          exact h2.elim (fun h => Int.le_of_eq ((cmp_int _ _).1.1 (Option.some.inj h))) (fun h => Int.le_of_lt ((cmp_int _ _).2.1.1 (Option.some.inj h)))
        have hab : (signed s m (i + 1074).toNat).natAbs ≤ 32768 * 2 ^ 1074 := by
          obtain ⟨K, hK⟩ : ∃ K : Nat, 2 ^ 1074 = K := ⟨_, rfl⟩
          have hK2 : (2 : Int) ^ 1074 = (K : Int) := by rw [← hK]; exact (Int.natCast_pow 2 1074).symm
          rw [hK2] at b1 b2
          rw [hK]
          omega
        obtain ⟨t, ht, ht2⟩ := cut_between hi hab
        have hv : -32768 ≤ signed s t 0 ∧ signed s t 0 ≤ 32768 := by
          unfold signed
          rw [Nat.shiftLeft_zero]
          cases s
          · rw [if_neg (by decide)]; omega
          · rw [if_pos rfl]; omega
        have hne : double.order x (floatOfInt .f64 (signed s t 0)) ≠ some .eq := by
          intro h3
          have hd := eq_den (den_int (by omega)) (by omega) h3
          refine hw ⟨_, hd, hv.1, ?_⟩
          rw [ord_den hd hh] at h2
          exact h2.elim (fun h => Int.le_of_eq ((cmp_int _ _).1.1 (Option.some.inj h))) (fun h => Int.le_of_lt ((cmp_int _ _).2.1.1 (Option.some.inj h)))
        exact ⟨_, hv.1, hv.2, by rw [hx]; exact ht2, hne, fun h3 => hne (eq_turn h3)⟩
    · exact .inr (.inl ⟨fun e => h2 (.inl e), fun e => h2 (.inr e)⟩)
  · exact .inl ⟨fun e => h1 (.inl e), fun e => h1 (.inr e)⟩
end Go.Proofs.Ytelmkfpomeilpaa.Exact
