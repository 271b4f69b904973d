/- Put together: Ia, Ib, Ic, Ie, Iu, Ir, Ix, Iy, Iv, Iw. -/
import Derived.Laws.FloatArith
import Derived.Laws.ComplexArith
import Derived.Test.YtknhgfofmkpnfaaGreatOw
import Derived.WalkLawsBesides
import Derived.Laws.Externs
import GoSem.Extern.MathFloor
import Derived.LoopN
import Derived.Handy
import Derived.Outline
import Derived.Laws.BitsAllLaws
import Derived.Test.YtknhgfofmkpnfaaGreatZa
import Derived.Test.YtknhgfofmkpnfaaGreatBa
import Derived.Deep.RegionHeld3
import Derived.Deep.RegionWith
import Derived.LaidEqlPtr
/- Whole numbers as floats of 64 bits: sums, differences, products are exact below 2^53; order; to an integer. -/
namespace Go.Proofs.YtknhgfofmkpnfaaGreat.Exact
open Ieee

theorem log2_shift {n k : Nat} (h : n ≠ 0) : (n * 2 ^ k).log2 = n.log2 + k := by
  have hk : 0 < 2 ^ k := Nat.two_pow_pos k
  rw [Nat.log2_eq_iff (Nat.mul_ne_zero h (by omega))]
  have h1 := Nat.log2_self_le h
  have h2 := @Nat.lt_log2_self n
  constructor
  · rw [Nat.pow_add]
    exact Nat.mul_le_mul_right _ h1
  · rw [show n.log2 + k + 1 = (n.log2 + 1) + k by omega, Nat.pow_add]
    exact Nat.mul_lt_mul_of_pos_right h2 hk
theorem cut_exact (way : Toward) (s : Bool) {a : Nat} (d : Nat) (ha : a ≠ 0) : way.cut s (a * 2 ^ d) d = a := by
  unfold Toward.cut
  have h : min d ((a * 2 ^ d).log2 + 2) = d := by rw [log2_shift ha]; omega
  have hp := Nat.two_pow_pos d
  simp only [h, Nat.one_shiftLeft]
  rw [Nat.mul_div_cancel _ hp, Nat.mul_mod_left]
  cases way <;> simp
theorem cut_nought (way : Toward) (s : Bool) (d : Nat) : way.cut s 0 d = 0 := by
  unfold Toward.cut
  have hp := Nat.two_pow_pos (min d (Nat.log2 0 + 2))
  simp only [Nat.one_shiftLeft, Nat.zero_div, Nat.zero_mod]
  cases way <;> simp

theorem c_sign : double.signWeight = 9223372036854775808 := rfl
theorem c_bin : double.binade = 4503599627370496 := rfl
theorem c_inf : double.infRung = 9218868437227405312 := rfl
theorem c_least : double.leastPlace = -1074 := rfl
theorem read_word (s : Bool) (d M : Nat) (hd : d ≤ 1074) (h1 : 4503599627370496 ≤ M) (h2 : M < 9007199254740992) : double.read (double.word s ((1074 - d) * 4503599627370496 + M)) = .number s M (-(d : Int)) := by
  obtain ⟨q, hq, hq2⟩ : ∃ q, (1074 - d) * 4503599627370496 + M = q ∧ q = (1074 - d) * 4503599627370496 + M := ⟨_, rfl, rfl⟩
  have hw : double.word s q / double.signWeight % 2 = s.toNat ∧ double.word s q % double.signWeight = q := by
    rw [c_sign]
    cases s <;> simp only [Format.word, c_sign] <;> constructor <;> simp <;> omega
  rw [hq]
  unfold Format.read
  simp only [hw.1, hw.2, c_bin, c_inf, c_least]
  rw [if_neg (by omega), if_pos (by omega)]
  have e1 : (s.toNat == 1) = s := by cases s <;> rfl
  have e2 : 4503599627370496 + q % 4503599627370496 = M := by omega
  have e3 : (-1074 : Int) + ((q / 4503599627370496 - 1 : Nat) : Int) = -(d : Int) := by omega
  rw [e1, e2, e3]
theorem read_nought (s : Bool) : double.read (double.word s 0) = .number s 0 (-1074) := by cases s <;> decide

/-- A datum that is the whole number n. -/
def DenD (d : Datum) (n : Int) : Prop := ∃ (s : Bool) (k : Nat), d = .number s (n.natAbs * 2 ^ k) (-(k : Int)) ∧ (n ≠ 0 → s = decide (n < 0))
/-- A word that is the whole number n. -/
def Den (x : Nat) (n : Int) : Prop := DenD (double.read x) n

theorem nought_den (s : Bool) (k : Nat) : DenD (.number s 0 (-(k : Int))) 0 := ⟨s, k, by rw [show Int.natAbs 0 = 0 from rfl, Nat.zero_mul], fun h => absurd rfl h⟩
theorem den_write {d : Datum} {n : Int} (h : DenD d n) (hn : n.natAbs < 9007199254740992) : Den (double.write d) n := by
  obtain ⟨s, k, rfl, hs⟩ := h
  unfold Den
  simp only [Format.write]
  by_cases h0 : n = 0
  · subst h0
    unfold Format.nearest
    rw [if_pos (by simp), read_nought]
    exact nought_den s 1074
  · obtain ⟨a, ha⟩ : ∃ a, n.natAbs = a := ⟨_, rfl⟩
    have ha0 : a ≠ 0 := by omega
    rw [ha] at hn
    have hl : a.log2 < 53 := (Nat.log2_lt ha0).2 hn
    obtain ⟨d, hd⟩ : ∃ d, 52 - a.log2 = d := ⟨_, rfl⟩
    have hlo : 4503599627370496 ≤ a * 2 ^ d := by
      have := Nat.mul_le_mul_right (2 ^ d) (Nat.log2_self_le ha0)
      rw [← Nat.pow_add, show a.log2 + d = 52 by omega] at this
      exact this
    have hhi : a * 2 ^ d < 9007199254740992 := by
      have := Nat.mul_lt_mul_of_pos_right (@Nat.lt_log2_self a) (Nat.two_pow_pos d)
      rw [← Nat.pow_add, show a.log2 + 1 + d = 53 by omega] at this
      exact this
    have hm0 : a * 2 ^ k ≠ 0 := Nat.mul_ne_zero ha0 (by have := Nat.two_pow_pos k; omega)
    have hlast : max (-(k : Int) + ((a * 2 ^ k).log2 : Int) - (double.fractionBits : Int)) double.leastPlace = -(d : Int) := by
      rw [log2_shift ha0, c_least, show (double.fractionBits : Int) = 52 from rfl]
      omega
    have hkept : Toward.even.cut s ((a * 2 ^ k) <<< (-(k : Int) - -(d : Int)).toNat) (-(d : Int) - -(k : Int)).toNat = a * 2 ^ d := by
      have : (a * 2 ^ k) <<< (-(k : Int) - -(d : Int)).toNat = (a * 2 ^ d) * 2 ^ (-(d : Int) - -(k : Int)).toNat := by
        rw [Nat.shiftLeft_eq, Nat.mul_assoc, Nat.mul_assoc, ← Nat.pow_add, ← Nat.pow_add]
        congr 2
        omega
      rw [this]
      exact cut_exact _ _ _ (by omega)
    unfold Format.nearest
    rw [ha, if_neg hm0]
    simp only [hlast, hkept]
    rw [c_least, c_bin, c_inf, show (-(d : Int) - -1074).toNat = 1074 - d by omega, Nat.min_eq_left (by omega), read_word s d _ (by omega) hlo hhi]
    exact ⟨s, d, by rw [ha], hs⟩

theorem signed_den {s : Bool} {n : Int} (hs : n ≠ 0 → s = decide (n < 0)) (k p : Nat) : signed s (n.natAbs * 2 ^ k) p = n * 2 ^ (k + p) := by
  unfold signed
  rw [Nat.shiftLeft_eq, Nat.mul_assoc, ← Nat.pow_add]
  by_cases h0 : n = 0
  · subst h0
    simp
  · rw [hs h0]
    by_cases hn : n < 0
    · rw [if_pos (by simpa using hn)]
      push_cast
      rw [show ((n.natAbs : Nat) : Int) = -n by omega, Int.neg_mul, Int.neg_neg]
    · rw [if_neg (by simpa using hn)]
      push_cast
      rw [show ((n.natAbs : Nat) : Int) = n by omega]
theorem pow_pos (k : Nat) : (0 : Int) < 2 ^ k := by
  have := Nat.two_pow_pos k
  exact_mod_cast this
theorem lift_mul (n : Int) (k : Nat) : (n * 2 ^ k).natAbs = n.natAbs * 2 ^ k := by rw [Int.natAbs_mul, Int.natAbs_pow]; rfl
theorem lift_neg (n : Int) (k : Nat) : n * 2 ^ k < 0 ↔ n < 0 := by
  have := Int.mul_lt_mul_right (b := n) (c := 0) (pow_pos k)
  rwa [Int.zero_mul] at this
theorem lift_zero (n : Int) (k : Nat) : n * 2 ^ k = 0 ↔ n = 0 := by
  have := pow_pos k
  constructor
  · intro h
    rcases Int.mul_eq_zero.1 h with h | h <;> omega
  · rintro rfl
    exact Int.zero_mul _

theorem sum_den {d e : Datum} {a b : Int} (hd : DenD d a) (he : DenD e b) : ∃ r, d.sum e = some r ∧ DenD r (a + b) := by
  obtain ⟨s, i, rfl, hs⟩ := hd
  obtain ⟨t, j, rfl, ht⟩ := he
  obtain ⟨k, hk⟩ : ∃ k, max i j = k := ⟨_, rfl⟩
  have hb : min (-(i : Int)) (-(j : Int)) = -(k : Int) := by omega
  refine ⟨_, rfl, ?_⟩
  simp only [hb]
  rw [signed_den hs, signed_den ht, show i + (-(i : Int) - -(k : Int)).toNat = k by omega, show j + (-(j : Int) - -(k : Int)).toNat = k by omega, ← Int.add_mul, lift_mul]
  refine ⟨_, k, rfl, fun h => ?_⟩
  rw [if_neg (fun h' => h ((lift_zero _ _).1 h'))]
  exact decide_eq_decide.2 (lift_neg _ _)
theorem opposite_den {d : Datum} {a : Int} (hd : DenD d a) : DenD d.opposite (-a) := by
  obtain ⟨s, i, rfl, hs⟩ := hd
  refine ⟨!s, i, by rw [Int.natAbs_neg]; rfl, fun h => ?_⟩
  rw [hs (by omega)]
  by_cases h1 : a < 0
  · rw [decide_eq_true h1, decide_eq_false (by omega)]; rfl
  · rw [decide_eq_false h1, decide_eq_true (by omega)]; rfl
theorem product_den {d e : Datum} {a b : Int} (hd : DenD d a) (he : DenD e b) : ∃ r, d.product e = some r ∧ DenD r (a * b) := by
  obtain ⟨s, i, rfl, hs⟩ := hd
  obtain ⟨t, j, rfl, ht⟩ := he
  refine ⟨_, rfl, s ^^ t, i + j, ?_, fun h => ?_⟩
  · rw [Int.natAbs_mul, show a.natAbs * 2 ^ i * (b.natAbs * 2 ^ j) = a.natAbs * b.natAbs * 2 ^ (i + j) by rw [Nat.pow_add]; ac_rfl, show -(i : Int) + -(j : Int) = -((i + j : Nat) : Int) by omega]
  · have ha : a ≠ 0 := fun h' => h (by rw [h', Int.zero_mul])
    have hb : b ≠ 0 := fun h' => h (by rw [h', Int.mul_zero])
    rw [hs ha, ht hb]
    by_cases h1 : a < 0 <;> by_cases h2 : b < 0
    · have := Int.mul_pos_of_neg_of_neg h1 h2
      rw [decide_eq_true h1, decide_eq_true h2, decide_eq_false (by omega)]; rfl
    · have := Int.mul_neg_of_neg_of_pos h1 (show 0 < b by omega)
      rw [decide_eq_true h1, decide_eq_false h2, decide_eq_true this]; rfl
    · have := Int.mul_neg_of_pos_of_neg (show 0 < a by omega) h2
      rw [decide_eq_false h1, decide_eq_true h2, decide_eq_true this]; rfl
    · have := Int.mul_pos (show 0 < a by omega) (show 0 < b by omega)
      rw [decide_eq_false h1, decide_eq_false h2, decide_eq_false (by omega)]; rfl
theorem cmp_lift (a b : Int) (k : Nat) : compare (a * 2 ^ k) (b * 2 ^ k) = compare a b := by
  have h1 := Int.mul_lt_mul_right (b := a) (c := b) (pow_pos k)
  have h2 : a * 2 ^ k = b * 2 ^ k ↔ a = b := ⟨fun h => Int.eq_of_mul_eq_mul_right (by have := pow_pos k; omega) h, fun h => by rw [h]⟩
  show compareOfLessAndEq _ _ = compareOfLessAndEq _ _
  unfold compareOfLessAndEq
  simp only [h1, h2]
theorem order_den {d e : Datum} {a b : Int} (hd : DenD d a) (he : DenD e b) : d.order e = some (compare a b) := by
  obtain ⟨s, i, rfl, hs⟩ := hd
  obtain ⟨t, j, rfl, ht⟩ := he
  obtain ⟨k, hk⟩ : ∃ k, max i j = k := ⟨_, rfl⟩
  have hb : min (-(i : Int)) (-(j : Int)) = -(k : Int) := by omega
  unfold Datum.order
  simp only [hb]
  rw [signed_den hs, signed_den ht, show i + (-(i : Int) - -(k : Int)).toNat = k by omega, show j + (-(j : Int) - -(k : Int)).toNat = k by omega, cmp_lift]
theorem toInt_den {d : Datum} {n : Int} (hd : DenD d n) : d.toInt .zero = some n := by
  obtain ⟨s, k, rfl, hs⟩ := hd
  unfold Datum.toInt
  simp only [Datum.integral]
  rw [show (-(k : Int)).toNat = 0 by omega, Nat.shiftLeft_zero, show (- -(k : Int)).toNat = k by omega]
  by_cases h0 : n = 0
  · subst h0
    rw [show Int.natAbs 0 = 0 from rfl, Nat.zero_mul, cut_nought]
    cases s <;> rfl
  · rw [cut_exact _ _ _ (by omega)]
    have := signed_den hs 0 0
    rw [Nat.pow_zero, Nat.mul_one] at this
    rw [this]
    simp

theorem den_int {n : Int} (hn : n.natAbs < 9007199254740992) : Den (floatOfInt .f64 n) n :=
  den_write (d := .number (decide (n < 0)) n.natAbs 0) ⟨decide (n < 0), 0, by rw [Nat.pow_zero, Nat.mul_one]; rfl, fun _ => rfl⟩ hn
theorem add_den {x y : Nat} {a b : Int} (hx : Den x a) (hy : Den y b) (h : (a + b).natAbs < 9007199254740992) : ∃ r, floatBits .add .f64 x y = some r ∧ Den r (a + b) := by
  obtain ⟨r, e, hr⟩ := sum_den hx hy
  exact ⟨double.write r, by show Option.map double.write ((double.read x).sum (double.read y)) = _; rw [e]; rfl, den_write hr h⟩
theorem sub_den {x y : Nat} {a b : Int} (hx : Den x a) (hy : Den y b) (h : (a - b).natAbs < 9007199254740992) : ∃ r, floatBits .sub .f64 x y = some r ∧ Den r (a - b) := by
  obtain ⟨r, e, hr⟩ := sum_den hx (opposite_den hy)
  exact ⟨double.write r, by show Option.map double.write ((double.read x).sum (double.read y).opposite) = _; rw [e]; rfl, den_write (by rw [Int.sub_eq_add_neg]; exact hr) h⟩
theorem mul_den {x y : Nat} {a b : Int} (hx : Den x a) (hy : Den y b) (h : (a * b).natAbs < 9007199254740992) : ∃ r, floatBits .mul .f64 x y = some r ∧ Den r (a * b) := by
  obtain ⟨r, e, hr⟩ := product_den hx hy
  exact ⟨double.write r, by show Option.map double.write ((double.read x).product (double.read y)) = _; rw [e]; rfl, den_write hr h⟩
theorem to_int_den {x : Nat} {n : Int} {k : IntKind} (hx : Den x n) (h : k.min ≤ n ∧ n ≤ k.max) : floatToIntVal .f64 x k = some n := by
  unfold floatToIntVal
  rw [show (FloatKind.f64.decode x).toInt .zero = some n from toInt_den hx]
  simp [h]
theorem ord_den {x y : Nat} {a b : Int} (hx : Den x a) (hy : Den y b) : double.order x y = some (compare a b) := order_den hx hy
theorem den_one {x : Nat} {a b : Int} (h : Den x a) (k : Den x b) : a = b := by
  have := (toInt_den h).symm.trans (toInt_den k)
  injection this
/-- What a word can be. -/
theorem read_cases (x : Nat) : (∃ s f, double.read x = .nan s f) ∨ (∃ s, double.read x = .infinity s) ∨ ∃ (s : Bool) (m : Nat) (e : Int), double.read x = .number s m e ∧ -1074 ≤ e ∧ (0 < e → 4503599627370496 ≤ m) := by
  by_cases h1 : x % double.signWeight < double.binade
  · refine .inr (.inr ⟨x / double.signWeight % 2 == 1, x % double.signWeight, -1074, ?_, by omega, by omega⟩)
    unfold Format.read
    simp only
    rw [if_pos h1, c_least]
  · by_cases h2 : x % double.signWeight < double.infRung
    · refine .inr (.inr ⟨x / double.signWeight % 2 == 1, double.binade + x % double.signWeight % double.binade, -1074 + ((x % double.signWeight / double.binade - 1 : Nat) : Int), ?_, by omega, by rw [c_bin]; omega⟩)
      unfold Format.read
      simp only
      rw [if_neg h1, if_pos h2, c_least]
    · by_cases h3 : x % double.signWeight = double.infRung
      · refine .inr (.inl ⟨x / double.signWeight % 2 == 1, ?_⟩)
        unfold Format.read
        simp only
        rw [if_neg h1, if_neg h2, if_pos h3]
      · refine .inl ⟨x / double.signWeight % 2 == 1, x % double.signWeight - double.infRung, ?_⟩
        unfold Format.read
        simp only
        rw [if_neg h1, if_neg h2, if_neg h3]
theorem signed_up (s : Bool) (m p q : Nat) : signed s m p * 2 ^ q = signed s m (p + q) := by
  unfold signed
  cases s <;> simp [Nat.shiftLeft_eq, Nat.pow_add, Int.neg_mul, Int.mul_assoc]
theorem order_up {s t : Bool} {m n : Nat} {i j : Int} (hi : -1074 ≤ i) (hj : -1074 ≤ j) : (Datum.number s m i).order (.number t n j) = some (compare (signed s m (i + 1074).toNat) (signed t n (j + 1074).toNat)) := by
  unfold Datum.order
  simp only
  rw [← cmp_lift _ _ (min i j + 1074).toNat, signed_up, signed_up, show (i - min i j).toNat + (min i j + 1074).toNat = (i + 1074).toNat by omega, show (j - min i j).toNat + (min i j + 1074).toNat = (j + 1074).toNat by omega]
theorem signed_abs (s : Bool) (m p : Nat) : (signed s m p).natAbs = m * 2 ^ p := by
  have h : (((m * 2 ^ p : Nat) : Int)).natAbs = m * 2 ^ p := Int.natAbs_natCast _
  unfold signed
  rw [Nat.shiftLeft_eq]
  cases s
  · rw [if_neg (by decide)]
    exact h
  · rw [if_pos rfl, Int.natAbs_neg]
    exact h
theorem signed_sign {s : Bool} {m p : Nat} (h : m ≠ 0) : s = decide (signed s m p < 0) := by
  have h1 : 0 < m * 2 ^ p := Nat.mul_pos (by omega) (Nat.two_pow_pos p)
  unfold signed
  rw [Nat.shiftLeft_eq]
  cases s
  · rw [if_neg (by decide)]
    exact (decide_eq_false (by omega)).symm
  · rw [if_pos rfl]
    exact (decide_eq_true (by omega)).symm
/-- A number that stands equal to a whole one is that. -/
theorem den_up {s : Bool} {m : Nat} {e : Int} {n : Int} (he : -1074 ≤ e) (hm : 0 < e → 4503599627370496 ≤ m) (hn : n.natAbs < 9007199254740992) (h : signed s m (e + 1074).toNat = n * 2 ^ 1074) : DenD (.number s m e) n := by
  have ha := congrArg Int.natAbs h
  rw [signed_abs, lift_mul] at ha
  have he0 : e ≤ 0 := by
    by_cases hp : 0 < e
    · exfalso
      have h1 := hm hp
      rw [show (e + 1074).toNat = e.toNat + 1074 by omega, Nat.pow_add, ← Nat.mul_assoc] at ha
      have h2 := Nat.eq_of_mul_eq_mul_right (Nat.two_pow_pos 1074) ha
      have h3 : 2 ^ 1 ≤ 2 ^ e.toNat := Nat.pow_le_pow_right (by omega) (by omega)
      have h4 := Nat.mul_le_mul h1 h3
      omega
    · omega
  obtain ⟨k, rfl⟩ : ∃ k : Nat, e = -(k : Int) := ⟨e.natAbs, by omega⟩
  have hk : (-(k : Int) + 1074).toNat + k = 1074 := by omega
  have h5 : m = n.natAbs * 2 ^ k := by
    refine Nat.eq_of_mul_eq_mul_right (Nat.two_pow_pos (-(k : Int) + 1074).toNat) ?_
    rw [ha, Nat.mul_assoc, ← Nat.pow_add, Nat.add_comm k, hk]
  refine ⟨s, k, by rw [h5], fun hn0 => ?_⟩
  have hm0 : m ≠ 0 := by
    rw [h5]
    exact Nat.mul_ne_zero (by omega) (by have := Nat.two_pow_pos k; omega)
  rw [signed_sign (s := s) (p := (-(k : Int) + 1074).toNat) hm0, h]
  exact decide_eq_decide.2 (lift_neg _ _)
/-- The whole number as a word lies at a place that is not above. -/
theorem den_place {x : Nat} {n : Int} (h : Den x n) : ∃ (s : Bool) (m : Nat) (e : Int), double.read x = .number s m e ∧ -1074 ≤ e ∧ signed s m (e + 1074).toNat = n * 2 ^ 1074 := by
  obtain ⟨s, k, hr, hs⟩ := h
  have hk : -1074 ≤ -(k : Int) := by
    rcases read_cases x with ⟨s', f, h⟩ | ⟨s', h⟩ | ⟨s', m, e, h, h1, _⟩
    · rw [hr] at h; cases h
    · rw [hr] at h; cases h
    · rw [hr] at h
      injection h with _ _ h3
      omega
  exact ⟨s, _, _, hr, hk, by rw [signed_den hs, show k + (-(k : Int) + 1074).toNat = 1074 by omega]⟩
theorem eq_den {x y : Nat} {n : Int} (hy : Den y n) (hn : n.natAbs < 9007199254740992) (h : double.order x y = some .eq) : Den x n := by
  obtain ⟨t, m', e', hr', he', hv'⟩ := den_place hy
  unfold Format.order at h
  rw [hr'] at h
  rcases read_cases x with ⟨s, f, hr⟩ | ⟨s, hr⟩ | ⟨s, m, e, hr, he, hm⟩
  · rw [hr] at h; simp [Datum.order] at h
  · rw [hr] at h; cases s <;> simp [Datum.order] at h
  · rw [hr, order_up he he'] at h
    unfold Den
    rw [hr]
    refine den_up he hm hn ?_
    rw [← hv']
    injection h with h
    have : compareOfLessAndEq (signed s m (e + 1074).toNat) (signed t m' (e' + 1074).toNat) = .eq := h
    unfold compareOfLessAndEq at this
    split at this
    · cases this
    · split at this
      · assumption
      · cases this
theorem cut_zero (s : Bool) (m d : Nat) : Toward.zero.cut s m d = m / 2 ^ d := by
  unfold Toward.cut
  simp only [Nat.one_shiftLeft]
  rw [show (false).toNat = 0 from rfl, Nat.add_zero]
  by_cases h : d ≤ m.log2 + 2
  · rw [Nat.min_eq_left h]
  · have h1 : m < 2 ^ (m.log2 + 2) := Nat.lt_trans (@Nat.lt_log2_self m) (Nat.pow_lt_pow_right (by omega) (by omega))
    rw [Nat.min_eq_right (by omega), Nat.div_eq_of_lt h1, Nat.div_eq_of_lt (Nat.lt_trans h1 (Nat.pow_lt_pow_right (by omega) (by omega)))]
/-- A number between two whole ones, cut towards nought, is between them. -/
theorem cut_between {s : Bool} {m : Nat} {e : Int} (he : -1074 ≤ e) {b : Nat} (h : (signed s m (e + 1074).toNat).natAbs ≤ b * 2 ^ 1074) : ∃ t : Nat, t ≤ b ∧ (Datum.number s m e).toInt .zero = some (signed s t 0) := by
  rw [signed_abs] at h
  unfold Datum.toInt
  simp only [Datum.integral]
  refine ⟨_, ?_, rfl⟩
  rw [cut_zero, Nat.shiftLeft_eq]
  refine Nat.div_le_of_le_mul ?_
  refine Nat.le_of_mul_le_mul_right ?_ (Nat.two_pow_pos (1074 - (-e).toNat))
  rw [Nat.mul_assoc, ← Nat.pow_add, show e.toNat + (1074 - (-e).toNat) = (e + 1074).toNat by omega, Nat.mul_comm (2 ^ _) b, Nat.mul_assoc, ← Nat.pow_add, show (-e).toNat + (1074 - (-e).toNat) = 1074 by omega]
  exact h
theorem cmp_int (a b : Int) : (compare a b = .eq ↔ a = b) ∧ (compare a b = .lt ↔ a < b) ∧ (compare a b = .gt ↔ b < a) := by
  show (compareOfLessAndEq a b = .eq ↔ _) ∧ (compareOfLessAndEq a b = .lt ↔ _) ∧ (compareOfLessAndEq a b = .gt ↔ _)
  unfold compareOfLessAndEq
  by_cases h1 : a < b
  · rw [if_pos h1]
    exact ⟨⟨fun h => (by cases h), fun h => (by omega)⟩, ⟨fun _ => h1, fun _ => rfl⟩, ⟨fun h => (by cases h), fun h => (by omega)⟩⟩
  · rw [if_neg h1]
    by_cases h2 : a = b
    · rw [if_pos h2]
      exact ⟨⟨fun _ => h2, fun _ => rfl⟩, ⟨fun h => (by cases h), fun h => (by omega)⟩, ⟨fun h => (by cases h), fun h => (by omega)⟩⟩
    · rw [if_neg h2]
      exact ⟨⟨fun h => (by cases h), fun h => (by omega)⟩, ⟨fun h => (by cases h), fun h => (by omega)⟩, ⟨fun _ => by omega, fun _ => rfl⟩⟩
theorem eq_turn {x y : Nat} (h : double.order x y = some .eq) : double.order y x = some .eq := by
  unfold Format.order at *
  rcases read_cases x with ⟨s, f, hx⟩ | ⟨s, hx⟩ | ⟨s, m, i, hx, hi, _⟩
  · rw [hx] at h; simp [Datum.order] at h
  · rcases read_cases y with ⟨t, f, hy⟩ | ⟨t, hy⟩ | ⟨t, n, j, hy, hj, _⟩
    · rw [hx, hy] at h; simp [Datum.order] at h
    · rw [hx, hy] at h ⊢
      cases s <;> cases t <;> first | exact h | (simp [Datum.order] at h; done) | (exact absurd h (by decide))
    · rw [hx, hy] at h; cases s <;> simp [Datum.order] at h
  · rcases read_cases y with ⟨t, f, hy⟩ | ⟨t, hy⟩ | ⟨t, n, j, hy, hj, _⟩
    · rw [hx, hy] at h; simp [Datum.order] at h
    · rw [hx, hy] at h; cases t <;> simp [Datum.order] at h
    · rw [hx, hy, order_up hi hj] at h
      rw [hx, hy, order_up hj hi]
      injection h with h
      rw [((cmp_int _ _).1).1 h]
      exact congrArg some (((cmp_int _ _).1).2 rfl)
/-- A word is a short, or it is told that it is none by one of three questions. -/
theorem short_cases (x : Nat) {l h : Nat} (hl : Den l (-32768)) (hh : Den h 32767) : (∃ n, Den x n ∧ -32768 ≤ n ∧ n ≤ 32767) ∨ (¬ (∃ n, Den x n ∧ -32768 ≤ n ∧ n ≤ 32767) ∧ ((double.order x l ≠ some .eq ∧ double.order x l ≠ some .gt) ∨ (double.order x h ≠ some .eq ∧ double.order x h ≠ some .lt) ∨ ((double.order x l = some .eq ∨ double.order x l = some .gt) ∧ (double.order x h = some .eq ∨ double.order x h = some .lt) ∧ ∃ t : Int, -32768 ≤ t ∧ t ≤ 32768 ∧ (double.read x).toInt .zero = some t ∧ double.order x (floatOfInt .f64 t) ≠ some .eq ∧ double.order (floatOfInt .f64 t) x ≠ some .eq))) := by
  by_cases hw : ∃ n, Den x n ∧ -32768 ≤ n ∧ n ≤ 32767
  · exact .inl hw
  refine .inr ⟨hw, ?_⟩
  by_cases h1 : double.order x l = some .eq ∨ double.order x l = some .gt
  · by_cases h2 : double.order x h = some .eq ∨ double.order x h = some .lt
    · refine .inr (.inr ⟨h1, h2, ?_⟩)
      obtain ⟨sl, ml, el, rl, gl, vl⟩ := den_place hl
      obtain ⟨sh, mh, eh, rh, gh, vh⟩ := den_place hh
      rcases read_cases x with ⟨s, f, hx⟩ | ⟨s, hx⟩ | ⟨s, m, i, hx, hi, _⟩
      · exfalso
        unfold Format.order at h1
        rw [hx] at h1
        simp [Datum.order] at h1
      · exfalso
        unfold Format.order at h1 h2
        rw [hx, rl] at h1
        rw [hx, rh] at h2
        cases s <;> simp [Datum.order] at h1 h2
      · have hB : (0 : Int) < 2 ^ 1074 := pow_pos 1074
        have b1 : -32768 * 2 ^ 1074 ≤ signed s m (i + 1074).toNat := by
          unfold Format.order at h1
          rw [hx, rl, order_up hi gl, vl] at h1
          exact h1.elim (fun h => Int.le_of_eq ((cmp_int _ _).1.1 (Option.some.inj h)).symm) (fun h => Int.le_of_lt ((cmp_int _ _).2.2.1 (Option.some.inj h)))
        have b2 : signed s m (i + 1074).toNat ≤ 32767 * 2 ^ 1074 := by
          unfold Format.order at h2
          rw [hx, rh, order_up hi gh, vh] at h2
          exact h2.elim (fun h => Int.le_of_eq ((cmp_int _ _).1.1 (Option.some.inj h))) (fun h => Int.le_of_lt ((cmp_int _ _).2.1.1 (Option.some.inj h)))
        have hab : (signed s m (i + 1074).toNat).natAbs ≤ 32768 * 2 ^ 1074 := by
          obtain ⟨K, hK⟩ : ∃ K : Nat, 2 ^ 1074 = K := ⟨_, rfl⟩
          have hK2 : (2 : Int) ^ 1074 = (K : Int) := by rw [← hK]; exact (Int.natCast_pow 2 1074).symm
          rw [hK2] at b1 b2
          rw [hK]
          omega
        obtain ⟨t, ht, ht2⟩ := cut_between hi hab
        have hv : -32768 ≤ signed s t 0 ∧ signed s t 0 ≤ 32768 := by
          unfold signed
          rw [Nat.shiftLeft_zero]
          cases s
          · rw [if_neg (by decide)]; omega
          · rw [if_pos rfl]; omega
        have hne : double.order x (floatOfInt .f64 (signed s t 0)) ≠ some .eq := by
          intro h3
          have hd := eq_den (den_int (by omega)) (by omega) h3
          refine hw ⟨_, hd, hv.1, ?_⟩
          rw [ord_den hd hh] at h2
          exact h2.elim (fun h => Int.le_of_eq ((cmp_int _ _).1.1 (Option.some.inj h))) (fun h => Int.le_of_lt ((cmp_int _ _).2.1.1 (Option.some.inj h)))
        exact ⟨_, hv.1, hv.2, by rw [hx]; exact ht2, hne, fun h3 => hne (eq_turn h3)⟩
    · exact .inr (.inl ⟨fun e => h2 (.inl e), fun e => h2 (.inr e)⟩)
  · exact .inl ⟨fun e => h1 (.inl e), fun e => h1 (.inr e)⟩
end Go.Proofs.YtknhgfofmkpnfaaGreat.Exact
/- Points of shorts: the ring (plain). -/
namespace Go.Proofs.YtknhgfofmkpnfaaGreat.Ring

def sh (n : Int) : Int := (n + 32768) % 65536 - 32768
theorem sh_range (n : Int) : -32768 ≤ sh n ∧ sh n ≤ 32767 := by unfold sh; omega
theorem sh_self {n : Int} (h : -32768 ≤ n ∧ n ≤ 32767) : sh n = n := by unfold sh; omega
theorem sh_form (n : Int) : ∃ q, sh n = n + 65536 * q := ⟨-((n + 32768) / 65536), by unfold sh; omega⟩
theorem sh_like {m n : Int} (q : Int) (h : m = n + 65536 * q) : sh m = sh n := by subst h; unfold sh; omega
theorem sh_mod (n : Int) : sh n % 65536 = n % 65536 := by unfold sh; omega

structure Pt where
  re : Int
  im : Int
def okP (z : Pt) : Prop := (-32768 ≤ z.re ∧ z.re ≤ 32767) ∧ -32768 ≤ z.im ∧ z.im ≤ 32767
def pt (v : Int) : Pt := ⟨sh (v % 65536), sh (v / 65536)⟩
def wd (z : Pt) : Int := z.re % 65536 + 65536 * (z.im % 65536)
def add (x y : Pt) : Pt := ⟨sh (x.re + y.re), sh (x.im + y.im)⟩
def mul (x y : Pt) : Pt := ⟨sh (x.re * y.re - x.im * y.im), sh (x.re * y.im + x.im * y.re)⟩
def turn1 (z : Pt) : Pt := mul z ⟨0, 1⟩
def turn (z : Pt) : Nat → Pt
  | 0 => z
  | k + 1 => turn1 (turn z k)
theorem ok_pt (v : Int) : okP (pt v) := ⟨sh_range _, sh_range _⟩
theorem ok_add (x y : Pt) : okP (add x y) := ⟨sh_range _, sh_range _⟩
theorem ok_mul (x y : Pt) : okP (mul x y) := ⟨sh_range _, sh_range _⟩
theorem pt_wd {z : Pt} (h : okP z) : pt (wd z) = z := by
  obtain ⟨a, b⟩ := z
  obtain ⟨h1, h2⟩ := h
  simp only at h1 h2
  unfold pt wd
  simp only
  congr 1
  · rw [show (a % 65536 + 65536 * (b % 65536)) % 65536 = a % 65536 by omega]
    unfold sh; omega
  · rw [show (a % 65536 + 65536 * (b % 65536)) / 65536 = b % 65536 by omega]
    unfold sh; omega
theorem wd_pt {v : Int} (h : 0 ≤ v ∧ v < 4294967296) : wd (pt v) = v := by
  unfold pt wd
  simp only [sh_mod]
  omega
theorem wd_range (z : Pt) : 0 ≤ wd z ∧ wd z < 4294967296 := by unfold wd; omega
theorem add_comm (x y : Pt) : add x y = add y x := by unfold add; rw [Int.add_comm, Int.add_comm x.im]
theorem mul_comm (x y : Pt) : mul x y = mul y x := by
  unfold mul
  rw [Int.mul_comm x.re, Int.mul_comm x.im, Int.mul_comm x.re, Int.mul_comm x.im, Int.add_comm (y.im * x.re)]
theorem add_assoc (x y z : Pt) : add (add x y) z = add x (add y z) := by
  unfold add
  simp only
  obtain ⟨q1, h1⟩ := sh_form (x.re + y.re)
  obtain ⟨q2, h2⟩ := sh_form (x.im + y.im)
  obtain ⟨q3, h3⟩ := sh_form (y.re + z.re)
  obtain ⟨q4, h4⟩ := sh_form (y.im + z.im)
  rw [h1, h2, h3, h4]
  congr 1
  · exact sh_like (q1 - q3) (by omega)
  · exact sh_like (q2 - q4) (by omega)
theorem mul_assoc (x y z : Pt) : mul (mul x y) z = mul x (mul y z) := by
  unfold mul
  simp only
  obtain ⟨q1, h1⟩ := sh_form (x.re * y.re - x.im * y.im)
  obtain ⟨q2, h2⟩ := sh_form (x.re * y.im + x.im * y.re)
  obtain ⟨q3, h3⟩ := sh_form (y.re * z.re - y.im * z.im)
  obtain ⟨q4, h4⟩ := sh_form (y.re * z.im + y.im * z.re)
  rw [h1, h2, h3, h4]
  congr 1
  · exact sh_like (q1 * z.re - q2 * z.im - x.re * q3 + x.im * q4) (by grind)
  · exact sh_like (q1 * z.im + q2 * z.re - x.re * q4 - x.im * q3) (by grind)
theorem mul_add (x y z : Pt) : mul x (add y z) = add (mul x y) (mul x z) := by
  unfold mul add
  simp only
  obtain ⟨q1, h1⟩ := sh_form (x.re * y.re - x.im * y.im)
  obtain ⟨q2, h2⟩ := sh_form (x.re * y.im + x.im * y.re)
  obtain ⟨q3, h3⟩ := sh_form (x.re * z.re - x.im * z.im)
  obtain ⟨q4, h4⟩ := sh_form (x.re * z.im + x.im * z.re)
  obtain ⟨q5, h5⟩ := sh_form (y.re + z.re)
  obtain ⟨q6, h6⟩ := sh_form (y.im + z.im)
  rw [h1, h2, h3, h4, h5, h6]
  congr 1
  · exact sh_like (x.re * q5 - x.im * q6 - q1 - q3) (by grind)
  · exact sh_like (x.re * q6 + x.im * q5 - q2 - q4) (by grind)
theorem add_zero {x : Pt} (h : okP x) : add x ⟨0, 0⟩ = x := by
  obtain ⟨a, b⟩ := x
  unfold add
  simp only [Int.add_zero]
  rw [sh_self h.1, sh_self h.2]
theorem mul_one {x : Pt} (h : okP x) : mul x ⟨1, 0⟩ = x := by
  obtain ⟨a, b⟩ := x
  unfold mul
  simp only [Int.mul_one, Int.mul_zero, Int.sub_zero, Int.zero_add]
  rw [sh_self h.1, sh_self h.2]
theorem turn1_is (z : Pt) : turn1 z = ⟨sh (-z.im), sh z.re⟩ := by
  unfold turn1 mul
  simp only [Int.mul_one, Int.mul_zero, Int.zero_sub, Int.add_zero]
theorem ok_turn {z : Pt} (h : okP z) (k : Nat) : okP (turn z k) := by
  cases k
  · exact h
  · exact ok_mul _ _
theorem turn_add (z : Pt) (j k : Nat) : turn z (j + k) = turn (turn z j) k := by
  induction k with
  | zero => rfl
  | succ k ih => exact congrArg turn1 ih
theorem turn_two (z : Pt) : turn z 2 = ⟨sh (-z.re), sh (-z.im)⟩ := by
  show turn1 (turn1 z) = _
  rw [turn1_is, turn1_is]
  simp only
  obtain ⟨q1, h1⟩ := sh_form (-z.im)
  obtain ⟨q2, h2⟩ := sh_form z.re
  rw [h1, h2]
  congr 1
  · exact sh_like (-q2) (by omega)
  · exact (sh_like q1 (by omega)).trans h1
theorem turn_four {z : Pt} (h : okP z) : turn z 4 = z := by
  rw [show (4 : Nat) = 2 + 2 from rfl, turn_add, turn_two, turn_two]
  obtain ⟨a, b⟩ := z
  simp only
  obtain ⟨q1, h1⟩ := sh_form (-a)
  obtain ⟨q2, h2⟩ := sh_form (-b)
  rw [h1, h2]
  congr 1
  · rw [sh_like (n := a) (-q1) (by omega), sh_self h.1]
  · rw [sh_like (n := b) (-q2) (by omega), sh_self h.2]
theorem turn_mod {z : Pt} (h : okP z) (k : Nat) : turn z k = turn z (k % 4) := by
  induction k using Nat.strongRecOn with
  | _ k ih =>
    by_cases hk : k < 4
    · rw [Nat.mod_eq_of_lt hk]
    · obtain ⟨j, rfl⟩ : ∃ j, k = 4 + j := ⟨k - 4, by omega⟩
      rw [turn_add, turn_four h, ih j (by omega), Nat.add_mod_left]
theorem add_turn_two {z : Pt} : add z (turn z 2) = ⟨0, 0⟩ := by
  rw [turn_two]
  unfold add
  simp only
  obtain ⟨q1, h1⟩ := sh_form (-z.re)
  obtain ⟨q2, h2⟩ := sh_form (-z.im)
  rw [h1, h2]
  congr 1
  · rw [sh_like (n := 0) q1 (by omega)]; decide
  · rw [sh_like (n := 0) q2 (by omega)]; decide
/-- Nothing is rounded: what is wrapped is below 2^53. -/
theorem no_round {x y : Pt} (hx : okP x) (hy : okP y) : (x.re * y.re).natAbs ≤ 1073741824 ∧ (x.im * y.im).natAbs ≤ 1073741824 ∧ (x.re * y.im).natAbs ≤ 1073741824 ∧ (x.im * y.re).natAbs ≤ 1073741824 := by
  have one : ∀ a b : Int, (-32768 ≤ a ∧ a ≤ 32767) → (-32768 ≤ b ∧ b ≤ 32767) → (a * b).natAbs ≤ 1073741824 := by
    intro a b ha hb
    rw [Int.natAbs_mul]
    exact Nat.mul_le_mul (show a.natAbs ≤ 32768 by omega) (show b.natAbs ≤ 32768 by omega)
  exact ⟨one _ _ hx.1 hy.1, one _ _ hx.2 hy.2, one _ _ hx.1 hy.2, one _ _ hx.2 hy.1⟩
/- The document's own half: its remainders are cut towards nought. -/
theorem tmod_lit (n : Int) : n.tmod 65536 = if 0 ≤ n then n % 65536 else -((-n) % 65536) := by
  by_cases h : 0 ≤ n
  · rw [if_pos h, Int.tmod_eq_emod_of_nonneg h]
  · rw [if_neg h, ← Int.tmod_eq_emod_of_nonneg (show 0 ≤ -n by omega), Int.neg_tmod, Int.neg_neg]
theorem ref_mod (n : Int) : (n.tmod 65536 + 65536).tmod 65536 = n % 65536 := by
  have h := tmod_lit n
  rw [tmod_lit (n.tmod 65536 + 65536), h]
  by_cases h0 : 0 ≤ n
  · simp only [if_pos h0]
    rw [if_pos (by omega)]
    omega
  · simp only [if_neg h0]
    rw [if_pos (by omega)]
    omega
theorem ref_short (n : Int) : (n.tmod 65536 + 65536 + 32768).tmod 65536 - 32768 = sh n := by
  have h := tmod_lit n
  rw [tmod_lit (n.tmod 65536 + 65536 + 32768), h]
  unfold sh
  by_cases h0 : 0 ≤ n
  · simp only [if_pos h0]
    rw [if_pos (by omega)]
    omega
  · simp only [if_neg h0]
    rw [if_pos (by omega)]
    omega
theorem wd_sh (a b : Int) : wd ⟨sh a, sh b⟩ = a % 65536 + 65536 * (b % 65536) := by
  unfold wd
  simp only [sh_mod]
/-- An int16 of a word's half is its short. -/
theorem low_short (v : Int) : sh (v % 65536) = if v % 65536 < 32768 then v % 65536 else v % 65536 - 65536 := by
  unfold sh
  by_cases h1 : v % 65536 < 32768
  · rw [if_pos h1]; omega
  · rw [if_neg h1]; omega
theorem i16_short (n : Int) : IntKind.i16.wrap n = sh n := by
  simp [IntKind.wrap, IntKind.bits, IntKind.signed, sh]
  omega
end Go.Proofs.YtknhgfofmkpnfaaGreat.Ring
/- Whole numbers as floats: the questions as truth values; complex numbers of whole parts. -/
namespace Go.Proofs.YtknhgfofmkpnfaaGreat.Exact
open Ieee

theorem ask_is {a b : Int} (o : Ordering) : (some (compare a b) == some o) = decide (compare a b = o) := by
  rw [show (some (compare a b) == some o) = (compare a b == o) from rfl]
  cases compare a b <;> cases o <;> rfl
theorem ask_eq {x y : Nat} {a b : Int} (hx : Den x a) (hy : Den y b) : (FloatKind.f64.format.order x y == some .eq) = decide (a = b) := by
  rw [show FloatKind.f64.format.order x y = some (compare a b) from ord_den hx hy, ask_is]
  exact decide_eq_decide.2 (cmp_int a b).1
theorem ask_lt {x y : Nat} {a b : Int} (hx : Den x a) (hy : Den y b) : (FloatKind.f64.format.order x y == some .lt) = decide (a < b) := by
  rw [show FloatKind.f64.format.order x y = some (compare a b) from ord_den hx hy, ask_is]
  exact decide_eq_decide.2 (cmp_int a b).2.1
theorem ask_gt {x y : Nat} {a b : Int} (hx : Den x a) (hy : Den y b) : (FloatKind.f64.format.order x y == some .gt) = decide (b < a) := by
  rw [show FloatKind.f64.format.order x y = some (compare a b) from ord_den hx hy, ask_is]
  exact decide_eq_decide.2 (cmp_int a b).2.2
theorem sum_parts {p q r s : Nat} {a b c d : Int} (h1 : Den p a) (h2 : Den q b) (h3 : Den r c) (h4 : Den s d) (k1 : (a + c).natAbs < 9007199254740992) (k2 : (b + d).natAbs < 9007199254740992) : ∃ x y, cSumBits .add .f64 p q r s = some (x, y) ∧ Den x (a + c) ∧ Den y (b + d) := by
  obtain ⟨x, hx, dx⟩ := add_den h1 h3 k1
  obtain ⟨y, hy, dy⟩ := add_den h2 h4 k2
  exact ⟨x, y, by unfold cSumBits; rw [hx, hy]; rfl, dx, dy⟩
theorem mul_parts {p q r s : Nat} {a b c d : Int} (h1 : Den p a) (h2 : Den q b) (h3 : Den r c) (h4 : Den s d) (k1 : (a * c).natAbs ≤ 1073741824) (k2 : (b * d).natAbs ≤ 1073741824) (k3 : (a * d).natAbs ≤ 1073741824) (k4 : (b * c).natAbs ≤ 1073741824) : ∃ x y, cMulBits p q r s = some (x, y) ∧ Den x (a * c - b * d) ∧ Den y (a * d + b * c) := by
  obtain ⟨x1, e1, d1⟩ := mul_den h1 h3 (by omega)
  obtain ⟨x2, e2, d2⟩ := mul_den h2 h4 (by omega)
  obtain ⟨x3, e3, d3⟩ := mul_den h1 h4 (by omega)
  obtain ⟨x4, e4, d4⟩ := mul_den h2 h3 (by omega)
  obtain ⟨x, hx, dx⟩ := sub_den d1 d2 (by omega)
  obtain ⟨y, hy, dy⟩ := add_den d3 d4 (by omega)
  refine ⟨x, y, ?_, dx, dy⟩
  unfold cMulBits
  rw [e1, e2, e3, e4]
  simp only [Option.bind_some]
  rw [hx, hy]
  rfl
theorem den_range {x : Nat} {n : Int} (h : Den x n) (t : Int) : (double.read x).toInt .zero = some t ↔ t = n := by
  rw [toInt_den h]
  exact ⟨fun e => (Option.some.inj e).symm, fun e => by rw [e]⟩
end Go.Proofs.YtknhgfofmkpnfaaGreat.Exact
/- Plain: a rotor's point and steps; what a value is that is a point. -/
namespace Go.Proofs.YtknhgfofmkpnfaaGreat.Rotor
open Exact Ring
set_option linter.unusedVariables false

/-- The parts x, y of a complex number are the point p's. -/
structure IsPt (x y : Nat) (p : Pt) : Prop where
  re : Den x p.re
  im : Den y p.im
  ok : okP p
def NotPt (x y : Nat) : Prop := ∀ p, ¬ IsPt x y p
theorem IsPt.one {x y : Nat} {p q : Pt} (h : IsPt x y p) (k : IsPt x y q) : p = q := by
  obtain ⟨a, b⟩ := p
  obtain ⟨c, d⟩ := q
  rw [show a = c from den_one h.re k.re, show b = d from den_one h.im k.im]
structure RS where
  p : Pt
  n : Int
def zeroR : RS := ⟨⟨0, 0⟩, 0⟩
structure OkR (s : RS) : Prop where
  p : okP s.p
  n : 0 ≤ s.n ∧ s.n < 4294967296
theorem okR_zero : OkR zeroR := ⟨⟨by show (-32768 : Int) ≤ 0 ∧ (0 : Int) ≤ 32767; omega, by show (-32768 : Int) ≤ 0 ∧ (0 : Int) ≤ 32767; omega⟩, by show (0 : Int) ≤ 0 ∧ (0 : Int) < _; omega⟩
def readR (s : RS) (reg : Int) : Int := if reg = 0 then wd s.p else if reg = 4 then s.n else 0
def incR (s : RS) : Int := (s.n + 1) % 4294967296
def writeR (s : RS) (reg v : Int) : RS :=
  if reg = 0 then ⟨pt v, s.n⟩ else if reg = 1 then ⟨add s.p (pt v), incR s⟩ else if reg = 2 then ⟨mul s.p (pt v), incR s⟩ else if reg = 3 then ⟨turn s.p v.toNat, incR s⟩ else s
theorem okR_write {s : RS} (h : OkR s) (reg v : Int) : OkR (writeR s reg v) := by
  have e : 0 ≤ incR s ∧ incR s < 4294967296 := by unfold incR; omega
  unfold writeR
  split
  · exact ⟨ok_pt v, h.n⟩
  split
  · exact ⟨ok_add _ _, e⟩
  split
  · exact ⟨ok_mul _ _, e⟩
  split
  · exact ⟨ok_turn h.p _, e⟩
  · exact h
theorem read_b {s : RS} (h : OkR s) (reg : Int) : 0 ≤ readR s reg ∧ readR s reg < 4294967296 := by
  unfold readR
  split
  · exact wd_range _
  split
  · exact h.n
  · omega
/-- What is asked of two points' parts. -/
theorem eq_parts {x y a b : Nat} {p q : Pt} (h : IsPt x y p) (k : IsPt a b q) : (FloatKind.f64.format.order x a == some .eq) = decide (p.re = q.re) ∧ (FloatKind.f64.format.order y b == some .eq) = decide (p.im = q.im) := ⟨ask_eq h.re k.re, ask_eq h.im k.im⟩
theorem eq_yes {x y a b : Nat} {p : Pt} (h : IsPt x y p) (k : IsPt a b p) : (FloatKind.f64.format.order x a == some .eq) = true ∧ (FloatKind.f64.format.order y b == some .eq) = true := by
  have := eq_parts h k
  exact ⟨this.1.trans (decide_eq_true rfl), this.2.trans (decide_eq_true rfl)⟩
/-- The word of whole parts that are known. -/
theorem isPt_of {x y : Nat} (a b : Int) (hx : floatOfInt .f64 a = x) (hy : floatOfInt .f64 b = y) (ha : -32768 ≤ a ∧ a ≤ 32767) (hb : -32768 ≤ b ∧ b ≤ 32767) : IsPt x y ⟨a, b⟩ := by
  subst hx hy
  exact ⟨den_int (by show a.natAbs < _; omega), den_int (by show b.natAbs < _; omega), ha, hb⟩
end Go.Proofs.YtknhgfofmkpnfaaGreat.Rotor
/- Plain: a number cut towards nought by the model's entry math.archTrunc; who is no short. -/
namespace Go.Proofs.YtknhgfofmkpnfaaGreat.Exact
open Ieee

/-- What the entry makes of a word that is a number. -/
def truncV (x : Nat) : Nat := double.write ((double.read x).integral .zero)
theorem trunc_run {P : Program} (x : Nat) (h : ∀ s f, double.read x ≠ .nan s f) (w : World) :
    (Extern.MathFloor.toIntegral "math.archTrunc" .zero #[.float .f64 x]).run P w = .ok (.float .f64 (truncV x)) w := by
  have key : ∀ d, FloatKind.f64.decode x = d → (∀ s f, d ≠ .nan s f) → Extern.MathFloor.toIntegral "math.archTrunc" .zero #[.float .f64 x] = pure (.float .f64 (double.write (d.integral .zero))) := by
    intro d hd hn
    delta Extern.MathFloor.toIntegral
    conv => lhs; whnf
    rw [hd]
    cases d with
    | nan s f => exact absurd rfl (hn s f)
    | infinity s => rfl
    | number s m e => rfl
  rw [key _ rfl h]
  rfl
theorem den_no_nan {x : Nat} {n : Int} (h : Den x n) : ∀ s f, double.read x ≠ .nan s f := by
  obtain ⟨s, k, hr, _⟩ := h
  intro s' f e
  rw [hr] at e
  cases e
/-- A number whose significand is whole. -/
theorem den_whole (s : Bool) (c : Nat) : DenD (.number s c 0) (signed s c 0) := by
  refine ⟨s, 0, ?_, fun h => ?_⟩
  · rw [signed_abs, Nat.pow_zero, Nat.mul_one, Nat.mul_one]; rfl
  · refine signed_sign (fun h0 => h ?_)
    subst h0
    unfold signed
    cases s <;> simp
/-- What is cut, is whole, where it is no greater than b. -/
theorem trunc_den_of {x : Nat} {T : Int} (h : (double.read x).toInt .zero = some T) (hb : T.natAbs < 9007199254740992) : Den (truncV x) T := by
  unfold truncV
  cases hd : double.read x with
  | nan s f => rw [hd] at h; simp [Datum.toInt, Datum.integral] at h
  | infinity s => rw [hd] at h; simp [Datum.toInt, Datum.integral] at h
  | number s m e =>
    rw [hd] at h
    unfold Datum.toInt at h
    simp only [Datum.integral] at h ⊢
    have e1 := Option.some.inj h
    rw [← e1]
    exact den_write (den_whole _ _) (by rw [e1]; exact hb)
theorem trunc_den {x : Nat} {n : Int} (h : Den x n) (hn : n.natAbs < 9007199254740992) : Den (truncV x) n := trunc_den_of (toInt_den h) hn

/-- A word is a short, or the questions tell that it is none. -/
theorem none_cases (x : Nat) {l h : Nat} (hl : Den l (-32768)) (hh : Den h 32767) :
    (∃ n, Den x n ∧ -32768 ≤ n ∧ n ≤ 32767) ∨ (¬ (∃ n, Den x n ∧ -32768 ≤ n ∧ n ≤ 32767) ∧
      ((double.order l x == some .lt || double.order l x == some .eq) = false ∨
       ((double.order l x == some .lt || double.order l x == some .eq) = true ∧ (double.order x h == some .lt || double.order x h == some .eq) = false) ∨
       ((double.order l x == some .lt || double.order l x == some .eq) = true ∧ (double.order x h == some .lt || double.order x h == some .eq) = true ∧ (∀ s f, double.read x ≠ .nan s f) ∧ (double.order x (truncV x) == some .eq) = false))) := by
  by_cases hw : ∃ n, Den x n ∧ -32768 ≤ n ∧ n ≤ 32767
  · exact .inl hw
  refine .inr ⟨hw, ?_⟩
  cases hA : (double.order l x == some .lt || double.order l x == some .eq)
  · exact .inl rfl
  cases hB : (double.order x h == some .lt || double.order x h == some .eq)
  · exact .inr (.inl ⟨rfl, rfl⟩)
  refine .inr (.inr ⟨rfl, rfl, ?_⟩)
  simp only [Bool.or_eq_true, beq_iff_eq] at hA hB
  obtain ⟨sl, ml, el, rl, gl, vl⟩ := den_place hl
  obtain ⟨sh, mh, eh, rh, gh, vh⟩ := den_place hh
  rcases read_cases x with ⟨s, f, hx⟩ | ⟨s, hx⟩ | ⟨s, m, i, hx, hi, _⟩
  · exfalso
    unfold Format.order at hB
    rw [hx] at hB
    simp [Datum.order] at hB
  · exfalso
    unfold Format.order at hA hB
    rw [hx, rl] at hA
    rw [hx, rh] at hB
    cases s <;> simp [Datum.order] at hA hB
  · refine ⟨(fun s' f e => by rw [hx] at e; cases e), ?_⟩
    have hB0 := hB
    have b1 : -32768 * 2 ^ 1074 ≤ signed s m (i + 1074).toNat := by
      unfold Format.order at hA
      rw [hx, rl, order_up gl hi, vl] at hA
      exact hA.elim (fun h => Int.le_of_lt ((cmp_int _ _).2.1.1 (Option.some.inj h))) (fun h => Int.le_of_eq ((cmp_int _ _).1.1 (Option.some.inj h)))
    have b2 : signed s m (i + 1074).toNat ≤ 32767 * 2 ^ 1074 := by
      unfold Format.order at hB
      rw [hx, rh, order_up hi gh, vh] at hB
      exact hB.elim (fun h => Int.le_of_lt ((cmp_int _ _).2.1.1 (Option.some.inj h))) (fun h => Int.le_of_eq ((cmp_int _ _).1.1 (Option.some.inj h)))
    have hab : (signed s m (i + 1074).toNat).natAbs ≤ 32768 * 2 ^ 1074 := by
      obtain ⟨K, hK⟩ : ∃ K : Nat, 2 ^ 1074 = K := ⟨_, rfl⟩
      have hK2 : (2 : Int) ^ 1074 = (K : Int) := by rw [← hK]; exact (Int.natCast_pow 2 1074).symm
      rw [hK2] at b1 b2
      rw [hK]
      omega
    obtain ⟨t, ht, ht2⟩ := cut_between hi hab
    have hv : -32768 ≤ signed s t 0 ∧ signed s t 0 ≤ 32768 := by
      unfold signed
      rw [Nat.shiftLeft_zero]
      cases s
      · rw [if_neg (by decide)]; omega
      · rw [if_pos rfl]; omega
    have hD : Den (truncV x) (signed s t 0) := trunc_den_of (by rw [hx]; exact ht2) (by omega)
    refine beq_eq_false_iff_ne.2 (fun h3 => ?_)
    have hd := eq_den hD (by omega) h3
    refine hw ⟨_, hd, hv.1, ?_⟩
    rw [ord_den hd hh] at hB0
    exact hB0.elim (fun h => Int.le_of_lt ((cmp_int _ _).2.1.1 (Option.some.inj h))) (fun h => Int.le_of_eq ((cmp_int _ _).1.1 (Option.some.inj h)))
end Go.Proofs.YtknhgfofmkpnfaaGreat.Exact
/- The document's: Point, Word, Plus, Times, Turn in whole numbers; its Rotor. -/
namespace Go.Proofs.YtknhgfofmkpnfaaGreat.Rotor
open Go.RowKit Go.Maps Fifo Orow Exact Ring
set_option linter.unusedVariables false

theorem tmod_b (n : Int) : -65536 < Int.tmod n 65536 ∧ Int.tmod n 65536 < 65536 := by
  have := tmod_lit n
  split at this <;> omega
theorem pt_i : pt 65536 = ⟨0, 1⟩ := rfl
theorem reg_cases (reg : Int) : reg = 0 ∨ reg = 1 ∨ reg = 2 ∨ reg = 3 ∨ (¬ reg = 0 ∧ ¬ reg = 1 ∧ ¬ reg = 2 ∧ ¬ reg = 3) := by omega
end Go.Proofs.YtknhgfofmkpnfaaGreat.Rotor
/- Package rotor: shorts and points: who is none; words, sums, products, turns. -/
namespace Go.Proofs.YtknhgfofmkpnfaaGreat.Rotor
open Go.RowKit Go.Maps Fifo Orow Exact Ring
set_option linter.unusedVariables false

theorem dn_lo : Den 13898108450065350656 (-32768) := by
  have h := den_int (n := -32768) (by decide)
  rwa [show floatOfInt .f64 (-32768) = 13898108450065350656 by decide +kernel] at h
theorem dn_hi : Den 4674736138332667904 32767 := by
  have h := den_int (n := 32767) (by decide)
  rwa [show floatOfInt .f64 32767 = 4674736138332667904 by decide +kernel] at h
def ShortF (x : Nat) : Prop := ∃ n, Den x n ∧ -32768 ≤ n ∧ n ≤ 32767
/-- Which parts are shorts, as truth values. -/
def Part (x : Nat) (b : Bool) : Prop := b = false ↔ ShortF x
/-- Are the parts of a value a point's? -/
theorem part_ex (x : Nat) : ∃ b, Part x b := by
  by_cases h : ShortF x
  · exact ⟨false, Iff.intro (fun _ => h) (fun _ => rfl)⟩
  · exact ⟨true, Iff.intro (fun e => Bool.noConfusion e) (fun k => absurd k h)⟩
theorem pt_parts {x y : Nat} {p : Pt} (h : IsPt x y p) : Part x false ∧ Part y false := ⟨⟨fun _ => ⟨_, h.re, h.ok.1⟩, fun _ => rfl⟩, ⟨fun _ => ⟨_, h.im, h.ok.2⟩, fun _ => rfl⟩⟩
theorem not_parts {x y : Nat} (h : NotPt x y) {p q : Bool} (hp : Part x p) (hq : Part y q) : (p || q) = true := by
  cases p
  · cases q
    · obtain ⟨m, d1, a1⟩ := hp.1 rfl
      obtain ⟨n, d2, a2⟩ := hq.1 rfl
      exact absurd ⟨d1, d2, a1, a2⟩ (h ⟨m, n⟩)
    · rfl
  · rfl
theorem word_bits (p : Pt) : bits .or .u32 (p.re % 65536) (p.im % 65536 * 65536) = wd p := by
  obtain ⟨a, ha⟩ := Int.eq_ofNat_of_zero_le (show 0 ≤ p.re % 65536 by omega)
  obtain ⟨b, hb⟩ := Int.eq_ofNat_of_zero_le (show 0 ≤ p.im % 65536 by omega)
  unfold wd
  rw [ha, hb, show (b : Int) * 65536 = ((b * 65536 : Nat) : Int) by omega, u32_or_nat a (b * 65536) (by omega) (by omega), Nat.or_comm, Nat.mul_comm b, show (65536 : Nat) = 2 ^ 16 from rfl, ← Nat.two_pow_add_eq_or_of_lt (show a < 2 ^ 16 by omega) b]
  omega
set_option maxRecDepth 100000 in
theorem wordOf_any (x y : Nat) (p : Pt) (w : World) (h : IsPt x y p) :
    Calls Tryz.prog 254 #[.complex .f64 x y] w fun e w' => e = .returned (.int .u32 (wd p)) ∧ w = w' := by
  have r := word_bits p
  have o1 := h.ok.1
  have o2 := h.ok.2
  have q1 : ∀ W, (convert 287 2 (.float .f64 x)).run Tryz.prog W = .ok (.int .i64 p.re) W := fun W => run_convert_float_int (P := Tryz.prog) W 287 2 .f64 .i64 x p.re (by kernel_rfl) (by kernel_rfl) (to_int_den h.re ⟨by show (-9223372036854775808 : Int) ≤ p.re; omega, by show p.re ≤ (9223372036854775807 : Int); omega⟩)
  have q2 : ∀ W, (convert 287 2 (.float .f64 y)).run Tryz.prog W = .ok (.int .i64 p.im) W := fun W => run_convert_float_int (P := Tryz.prog) W 287 2 .f64 .i64 y p.im (by kernel_rfl) (by kernel_rfl) (to_int_den h.im ⟨by show (-9223372036854775808 : Int) ≤ p.im; omega, by show p.im ≤ (9223372036854775807 : Int); omega⟩)
  have e1 : IntKind.u16.wrap p.re = p.re % 65536 := by simp [IntKind.wrap, IntKind.bits, IntKind.signed]
  have e2 : IntKind.u16.wrap p.im = p.im % 65536 := by simp [IntKind.wrap, IntKind.bits, IntKind.signed]
  clear h o1 o2
  obtain ⟨v, hv⟩ : ∃ v, wd p = v := ⟨_, rfl⟩
  rw [hv] at r
  rw [hv]
  go_enter Tryz.func254, Tryz.ntmps254
  go_wp2_with fail
  go_ret
  exact ⟨rfl, rfl⟩
end Go.Proofs.YtknhgfofmkpnfaaGreat.Rotor
/- Package rotor: sums, products, turns: the calls. -/
namespace Go.Proofs.YtknhgfofmkpnfaaGreat.Rotor
open Go.RowKit Go.Maps Fifo Orow Exact Ring
set_option linter.unusedVariables false

set_option maxRecDepth 100000 in
theorem short_any' (x : Nat) (n : Int) (w : World) (h : Den x n) (h1 : -4294967296 ≤ n ∧ n ≤ 4294967296) :
    Calls Tryz.prog 259 #[.float .f64 x] w fun e w' => e = .returned (.float .f64 (floatOfInt .f64 (IntKind.i16.wrap n))) ∧ w = w' := by
  have q3 : ∀ W, (convert 287 2 (.float .f64 x)).run Tryz.prog W = .ok (.int .i64 n) W := fun W => run_convert_float_int (P := Tryz.prog) W 287 2 .f64 .i64 x n (by kernel_rfl) (by kernel_rfl) (to_int_den h ⟨by show (-9223372036854775808 : Int) ≤ n; omega, by show n ≤ (9223372036854775807 : Int); omega⟩)
  clear h h1
  go_enter Tryz.func259, Tryz.ntmps259
  go_wp2_with fail
  go_ret
  exact ⟨rfl, rfl⟩
theorem wrapped_any (x y : Nat) (m n : Int) (w : World) (h : Den x m) (k : Den y n) (h1 : -4294967296 ≤ m ∧ m ≤ 4294967296) (k1 : -4294967296 ≤ n ∧ n ≤ 4294967296) :
    Calls Tryz.prog 256 #[.complex .f64 x y] w fun e w' => (∃ c d, e = .returned (.complex .f64 c d) ∧ IsPt c d ⟨sh m, sh n⟩) ∧ w = w' := by
  have c1 := Lib.hid (fun W => short_any' x m W h h1)
  have c2 := Lib.hid (fun W => short_any' y n W k k1)
  clear h k h1 k1
  go_enter Tryz.func256, Tryz.ntmps256
  go_wp2_with fail
  refine (c1.out _).mono ?_
  rintro e w' ⟨rfl, rfl⟩
  go_wp2_with fail
  refine (c2.out _).mono ?_
  rintro e w' ⟨rfl, rfl⟩
  go_wp2_with fail
  go_ret
  have hr := sh_range
  refine ⟨⟨_, _, rfl, ?_, ?_, hr _, hr _⟩, rfl⟩
  · rw [i16_short]
    exact den_int (by have := hr m; omega)
  · rw [i16_short]
    exact den_int (by have := hr n; omega)
theorem Point_core (v : Int) (w : World) (h : 0 ≤ v ∧ v < 4294967296) :
    Calls Tryz.prog 255 #[.int .u32 v] w fun e w' => e = .returned (.complex .f64 (floatOfInt .f64 (pt v).re) (floatOfInt .f64 (pt v).im)) ∧ w = w' := by
  have e1 : IntKind.i16.wrap v = (pt v).re := by rw [i16_short]; unfold pt; simp only; unfold sh; omega
  have e2 : IntKind.i16.wrap (v / 65536) = (pt v).im := by rw [i16_short]; rfl
  obtain ⟨a, ha⟩ : ∃ a, (pt v).re = a := ⟨_, rfl⟩
  obtain ⟨b, hb⟩ : ∃ b, (pt v).im = b := ⟨_, rfl⟩
  rw [ha] at e1
  rw [hb] at e2
  rw [ha, hb]
  have h1 := h.1
  have h2 := h.2
  clear ha hb h
  go_enter Tryz.func255, Tryz.ntmps255
  go_wp2_with fail
  go_ret
  exact ⟨rfl, rfl⟩
theorem Point_any (v : Int) (w : World) (h : 0 ≤ v ∧ v < 4294967296) :
    Calls Tryz.prog 255 #[.int .u32 v] w fun e w' => (∃ x y, e = .returned (.complex .f64 x y) ∧ IsPt x y (pt v)) ∧ Below w.heap.size w w' := by
  refine (Point_core v w h).mono ?_
  rintro e w' ⟨rfl, rfl⟩
  have o := ok_pt v
  have o1 := o.1
  have o2 := o.2
  exact ⟨⟨_, _, rfl, den_int (by omega), den_int (by omega), o⟩, Below.refl _ _⟩
theorem den_nought : Den 0 0 := by
  have h := den_int (n := 0) (by decide)
  rwa [show floatOfInt .f64 0 = 0 by decide +kernel] at h
theorem den_unit : Den 4607182418800017408 1 := by
  have h := den_int (n := 1) (by decide)
  rwa [show floatOfInt .f64 1 = 4607182418800017408 by decide +kernel] at h
theorem by_i {x y : Nat} {m n : Int} (h : Den x m) (k : Den y n) (h1 : -32768 ≤ m ∧ m ≤ 32768) (k1 : -32768 ≤ n ∧ n ≤ 32768) :
    ∃ a b, (∀ W t, (binOp .mul t (.complex .f64 x y) (.complex .f64 0 4607182418800017408)).run Tryz.prog W = .ok (.complex .f64 a b) W) ∧ Den a (-n) ∧ Den b m := by
  obtain ⟨a, b, hm, da, db⟩ := mul_parts h k den_nought den_unit (by omega) (by omega) (by omega) (by omega)
  refine ⟨a, b, fun W t => run_complex_mul W t x y 0 4607182418800017408 a b hm, ?_, ?_⟩
  · rwa [show m * 0 - n * 1 = -n by omega] at da
  · rwa [show m * 1 + n * 0 = m by omega] at db
theorem tn_0 {p : Pt} (h : okP p) : turn p 0 = ⟨sh p.re, sh p.im⟩ := by
  obtain ⟨a, b⟩ := p
  show (⟨a, b⟩ : Pt) = ⟨sh a, sh b⟩
  rw [sh_self h.1, sh_self h.2]
theorem tn_1 (p : Pt) : turn p 1 = ⟨sh (-p.im), sh p.re⟩ := turn1_is p
theorem tn_3 (p : Pt) : turn p 3 = ⟨sh (- -p.im), sh (-p.re)⟩ := by
  rw [show (3 : Nat) = 2 + 1 from rfl, turn_add, turn_two, tn_1]
  simp only
  obtain ⟨q1, h1⟩ := sh_form (-p.im)
  obtain ⟨q2, h2⟩ := sh_form (-p.re)
  congr 1
  · exact sh_like (-q1) (by omega)
  · exact sh_like q2 (by omega)
theorem turned_0 (x y : Nat) (p : Pt) (k : Int) (w : World) (h : IsPt x y p) (hq : Int.tmod k 4 = 0) (hb : 0 ≤ k ∧ k < 4294967296) :
    Calls Tryz.prog 260 #[.complex .f64 x y, .int .u32 k] w fun e w' => (∃ c d, e = .returned (.complex .f64 c d) ∧ IsPt c d (turn p 0)) ∧ w = w' := by
  have o1 := h.ok.1
  have o2 := h.ok.2
  have d0 := h.re
  have e0 := h.im
  rw [tn_0 h.ok]
  have C := Lib.hid (fun W => wrapped_any x y _ _ W d0 e0 (by omega) (by omega))
  have k0 := hb.1
  have k1 := hb.2
  clear h hb o1 o2 d0 e0
  go_enter Tryz.func260, Tryz.ntmps260
  go_wp2_with fail
  refine wp_loop_rounds 1 ?_
  rw [rounds_succ]
  go_wp2_with fail
  refine (C.out _).mono ?_
  rintro e w' ⟨⟨c, d, rfl, hc⟩, rfl⟩
  have R := Lib.hid hc
  clear hc
  go_wp2_with fail
  go_ret
  exact ⟨⟨c, d, rfl, R.out⟩, rfl⟩
theorem turned_1 (x y : Nat) (p : Pt) (k : Int) (w : World) (h : IsPt x y p) (hq : Int.tmod k 4 = 1) (hb : 0 ≤ k ∧ k < 4294967296) :
    Calls Tryz.prog 260 #[.complex .f64 x y, .int .u32 k] w fun e w' => (∃ c d, e = .returned (.complex .f64 c d) ∧ IsPt c d (turn p 1)) ∧ w = w' := by
  have o1 := h.ok.1
  have o2 := h.ok.2
  have d0 := h.re
  have e0 := h.im
  rw [tn_1 p]
  obtain ⟨x1, y1, q1, d1, e1⟩ := by_i d0 e0 (by omega) (by omega)
  have C := Lib.hid (fun W => wrapped_any x1 y1 _ _ W d1 e1 (by omega) (by omega))
  have k0 := hb.1
  have k1 := hb.2
  clear h hb o1 o2 d0 e0 d1 e1
  go_enter Tryz.func260, Tryz.ntmps260
  go_wp2_with fail
  refine wp_loop_rounds 2 ?_
  rw [rounds_succ]
  go_wp2_with fail
  rw [rounds_succ]
  go_wp2_with fail
  refine (C.out _).mono ?_
  rintro e w' ⟨⟨c, d, rfl, hc⟩, rfl⟩
  have R := Lib.hid hc
  clear hc
  go_wp2_with fail
  go_ret
  exact ⟨⟨c, d, rfl, R.out⟩, rfl⟩
theorem turned_2 (x y : Nat) (p : Pt) (k : Int) (w : World) (h : IsPt x y p) (hq : Int.tmod k 4 = 2) (hb : 0 ≤ k ∧ k < 4294967296) :
    Calls Tryz.prog 260 #[.complex .f64 x y, .int .u32 k] w fun e w' => (∃ c d, e = .returned (.complex .f64 c d) ∧ IsPt c d (turn p 2)) ∧ w = w' := by
  have o1 := h.ok.1
  have o2 := h.ok.2
  have d0 := h.re
  have e0 := h.im
  rw [turn_two p]
  obtain ⟨x1, y1, q1, d1, e1⟩ := by_i d0 e0 (by omega) (by omega)
  obtain ⟨x2, y2, q2, d2, e2⟩ := by_i d1 e1 (by omega) (by omega)
  have C := Lib.hid (fun W => wrapped_any x2 y2 _ _ W d2 e2 (by omega) (by omega))
  have k0 := hb.1
  have k1 := hb.2
  clear h hb o1 o2 d0 e0 d1 e1 d2 e2
  go_enter Tryz.func260, Tryz.ntmps260
  go_wp2_with fail
  refine wp_loop_rounds 3 ?_
  rw [rounds_succ]
  go_wp2_with fail
  rw [rounds_succ]
  go_wp2_with fail
  rw [rounds_succ]
  go_wp2_with fail
  refine (C.out _).mono ?_
  rintro e w' ⟨⟨c, d, rfl, hc⟩, rfl⟩
  have R := Lib.hid hc
  clear hc
  go_wp2_with fail
  go_ret
  exact ⟨⟨c, d, rfl, R.out⟩, rfl⟩
theorem turned_3 (x y : Nat) (p : Pt) (k : Int) (w : World) (h : IsPt x y p) (hq : Int.tmod k 4 = 3) (hb : 0 ≤ k ∧ k < 4294967296) :
    Calls Tryz.prog 260 #[.complex .f64 x y, .int .u32 k] w fun e w' => (∃ c d, e = .returned (.complex .f64 c d) ∧ IsPt c d (turn p 3)) ∧ w = w' := by
  have o1 := h.ok.1
  have o2 := h.ok.2
  have d0 := h.re
  have e0 := h.im
  rw [tn_3 p]
  obtain ⟨x1, y1, q1, d1, e1⟩ := by_i d0 e0 (by omega) (by omega)
  obtain ⟨x2, y2, q2, d2, e2⟩ := by_i d1 e1 (by omega) (by omega)
  obtain ⟨x3, y3, q3, d3, e3⟩ := by_i d2 e2 (by omega) (by omega)
  have C := Lib.hid (fun W => wrapped_any x3 y3 _ _ W d3 e3 (by omega) (by omega))
  have k0 := hb.1
  have k1 := hb.2
  clear h hb o1 o2 d0 e0 d1 e1 d2 e2 d3 e3
  go_enter Tryz.func260, Tryz.ntmps260
  go_wp2_with fail
  refine wp_loop_rounds 4 ?_
  rw [rounds_succ]
  go_wp2_with fail
  rw [rounds_succ]
  go_wp2_with fail
  rw [rounds_succ]
  go_wp2_with fail
  rw [rounds_succ]
  go_wp2_with fail
  refine (C.out _).mono ?_
  rintro e w' ⟨⟨c, d, rfl, hc⟩, rfl⟩
  have R := Lib.hid hc
  clear hc
  go_wp2_with fail
  go_ret
  exact ⟨⟨c, d, rfl, R.out⟩, rfl⟩
theorem turned_any (x y : Nat) (p : Pt) (k : Int) (w : World) (h : IsPt x y p) (hb : 0 ≤ k ∧ k < 4294967296) :
    Calls Tryz.prog 260 #[.complex .f64 x y, .int .u32 k] w fun e w' => (∃ c d, e = .returned (.complex .f64 c d) ∧ IsPt c d (turn p k.toNat)) ∧ w = w' := by
  have e : Int.tmod k 4 = ((k.toNat % 4 : Nat) : Int) := by rw [Int.tmod_eq_emod_of_nonneg hb.1]; omega
  rw [turn_mod h.ok]
  obtain ⟨j, hj⟩ : ∃ j, k.toNat % 4 = j := ⟨_, rfl⟩
  have hlt : j < 4 := by omega
  rw [hj] at e ⊢
  obtain rfl | rfl | rfl | rfl : j = 0 ∨ j = 1 ∨ j = 2 ∨ j = 3 := by omega
  · exact turned_0 x y p k w h e hb
  · exact turned_1 x y p k w h e hb
  · exact turned_2 x y p k w h e hb
  · exact turned_3 x y p k w h e hb
end Go.Proofs.YtknhgfofmkpnfaaGreat.Rotor
/- Package rotor: the object. RW w b s x: a rotor with the point and steps s lies in block b; x is what it says of where it lies. -/
namespace Go.Proofs.YtknhgfofmkpnfaaGreat.Rotor
open Go.RowKit Go.Maps Fifo Orow Exact Ring Fmap
set_option linter.unusedVariables false

theorem run_store_complex {P : Program} {w : World} {a : Addr} {m : Mode} (k : FloatKind) (x y : Nat) : (store a (.complex k x y) m).run P w = stored P w a (.complex k x y) m := run_store P w a _ m rfl
attribute [local go_sem] run_store_complex
def I64 (x : Int) : Prop := -9223372036854775808 ≤ x ∧ x ≤ 9223372036854775807
abbrev cellsR (x y : Nat) (n : Int) (v : Value) : List Value := [.complex .f64 x y, .int .u32 n, v]
structure RX (w : World) (b x y : Nat) (s : RS) (v : Value) : Prop where
  blk : Blk w b 134 (cellsR x y s.n v)
  pt : IsPt x y s.p
  n : 0 ≤ s.n ∧ s.n < 4294967296
def RW (w : World) (b : Nat) (s : RS) (v : Value) : Prop := ∃ x y, RX w b x y s v
theorem RX.only {S : Nat → Prop} {w w' : World} {b x y : Nat} {s : RS} {v : Value} (h : RX w b x y s v) (ho : Only S w w') (hn : ¬ S b) : RX w' b x y s v := ⟨h.blk.only ho hn, h.pt, h.n⟩
theorem RX.keep {w w' : World} {b x y : Nat} {s : RS} {v : Value} (h : RX w b x y s v) (hb : Below w.heap.size w w') : RX w' b x y s v := ⟨h.blk.keep hb, h.pt, h.n⟩
theorem RW.only {S : Nat → Prop} {w w' : World} {b : Nat} {s : RS} {v : Value} (h : RW w b s v) (ho : Only S w w') (hn : ¬ S b) : RW w' b s v := by
  obtain ⟨x, y, h⟩ := h
  exact ⟨x, y, h.only ho hn⟩
theorem RW.keep {w w' : World} {b : Nat} {s : RS} {v : Value} (h : RW w b s v) (hb : Below w.heap.size w w') : RW w' b s v := by
  obtain ⟨x, y, h⟩ := h
  exact ⟨x, y, h.keep hb⟩
theorem RW.lt {w : World} {b : Nat} {s : RS} {v : Value} (h : RW w b s v) : b < w.heap.size := by
  obtain ⟨x, y, h⟩ := h
  exact h.blk.lt
theorem RW.ok {w : World} {b : Nat} {s : RS} {v : Value} (h : RW w b s v) : OkR s := by
  obtain ⟨x, y, h⟩ := h
  exact ⟨h.pt.ok, h.n⟩
theorem drew_to {w w' : World} (hb : Below w.drew.heap.size w.drew w') : Below w.heap.size w w' := (Below.refl w.heap.size w).drew.trans (hb.mono (by simp))
theorem RX.c0 {w : World} {b x y : Nat} {s : RS} {v : Value} (h : RX w b x y s v) : w.cell? ⟨b, 0, none⟩ = some (.complex .f64 x y) := h.blk.at 0 rfl
theorem RX.c1 {w : World} {b x y : Nat} {s : RS} {v : Value} (h : RX w b x y s v) : w.cell? ⟨b, 1, none⟩ = some (.int .u32 s.n) := h.blk.at 1 rfl
theorem RX.c2 {w : World} {b x y : Nat} {s : RS} {v : Value} (h : RX w b x y s v) : w.cell? ⟨b, 2, none⟩ = some v := h.blk.at 2 rfl
theorem RW.c2 {w : World} {b : Nat} {s : RS} {v : Value} (h : RW w b s v) : w.cell? ⟨b, 2, none⟩ = some v := by
  obtain ⟨x, y, h⟩ := h
  exact h.c2
theorem word_any (b : Nat) (s : RS) (v : Value) (w : World) (h : RW w b s v) :
    Calls Tryz.prog 248 #[.pointer (some ⟨b, 0, none⟩)] w fun e w' => e = .returned (.int .u32 (wd s.p)) ∧ w = w' := by
  obtain ⟨x, y, h⟩ := h
  have c := h.c0
  have C := Lib.hid (fun W => wordOf_any x y s.p W h.pt)
  clear h
  go_enter Tryz.func248, Tryz.ntmps248
  go_wp2_with fail
  refine (C.out _).mono ?_
  rintro e w' ⟨rfl, rfl⟩
  go_wp2_with fail
  go_ret
  exact ⟨rfl, rfl⟩
theorem stepsNow_any (b : Nat) (s : RS) (v : Value) (w : World) (h : RW w b s v) :
    Calls Tryz.prog 249 #[.pointer (some ⟨b, 0, none⟩)] w fun e w' => e = .returned (.int .u32 s.n) ∧ w = w' := by
  obtain ⟨x, y, h⟩ := h
  have c := h.c1
  clear h
  go_enter Tryz.func249, Tryz.ntmps249
  go_wp2_with fail
  go_ret
  exact ⟨rfl, rfl⟩
/-- A point is stored. -/
theorem rx_set {w : World} {b x y : Nat} {s : RS} {v : Value} (h : RX w b x y s v) (c d : Nat) (p : Pt) (hp : IsPt c d p) : RW (w.setCell ⟨b, 0, none⟩ (.complex .f64 c d)) b ⟨p, s.n⟩ v ∧ Only (fun j => j = b) w (w.setCell ⟨b, 0, none⟩ (.complex .f64 c d)) :=
  ⟨⟨c, d, h.blk.set 0 _, hp, h.n⟩, (Only.refl (fun j => j = b) w).setCell (p := ⟨b, 0, none⟩) rfl _⟩
theorem rx_inc {w : World} {b x y : Nat} {s : RS} {v : Value} (h : RX w b x y s v) (n : Int) (hn : 0 ≤ n ∧ n < 4294967296) : RW (w.setCell ⟨b, 1, none⟩ (.int .u32 n)) b ⟨s.p, n⟩ v ∧ Only (fun j => j = b) w (w.setCell ⟨b, 1, none⟩ (.int .u32 n)) :=
  ⟨⟨x, y, h.blk.set 1 _, h.pt, hn⟩, (Only.refl (fun j => j = b) w).setCell (p := ⟨b, 1, none⟩) rfl _⟩
theorem become_any (b : Nat) (s : RS) (x : Value) (v : Int) (w : World) (hv : 0 ≤ v ∧ v < 4294967296) (h : RW w b s x) :
    Calls Tryz.prog 250 #[.pointer (some ⟨b, 0, none⟩), .int .u32 v] w fun e w' => e = .returned (.tuple #[]) ∧ RW w' b ⟨pt v, s.n⟩ x ∧ Only (fun j => j = b) w w' := by
  obtain ⟨x0, y0, h⟩ := h
  have P := Lib.hid (Point_any v w hv)
  have H := Lib.hid h
  clear h hv
  go_enter Tryz.func250, Tryz.ntmps250
  go_wp2_with fail
  refine P.out.mono ?_
  rintro e w1 ⟨⟨c, d, rfl, hp⟩, hb⟩
  have H1 := Lib.hid (H.out.keep hb)
  have T := Lib.hid (rx_set H1.out c d _ hp)
  have O := Lib.hid (Only.of_below (S := fun j => j = b) hb)
  clear hb hp
  have c0 := H1.out.c0
  have f0 := H1.out.blk.frozen 0
  go_wp2_with fail
  go_end0
  exact ⟨rfl, T.out.1, O.out.trans T.out.2⟩
theorem add_obj (b : Nat) (s : RS) (x : Value) (v : Int) (w : World) (hv : 0 ≤ v ∧ v < 4294967296) (h : RW w b s x) :
    Calls Tryz.prog 243 #[.pointer (some ⟨b, 0, none⟩), .int .u32 v] w fun e w' => e = .returned (.tuple #[]) ∧ RW w' b ⟨add s.p (pt v), s.n⟩ x ∧ Only (fun j => j = b) w w' := by
  obtain ⟨x0, y0, h⟩ := h
  have o1 := h.pt.ok.1
  have o2 := h.pt.ok.2
  have o3 := (ok_pt v).1
  have o4 := (ok_pt v).2
  have K := Lib.hid (fun a b' (hab : IsPt a b' (pt v)) => by
    obtain ⟨c, d, hm, dx, dy⟩ := sum_parts h.pt.re h.pt.im hab.re hab.im (by omega) (by omega)
    exact (⟨c, d, fun W t => run_complex_sum W .add (.inl rfl) t .f64 x0 y0 a b' c d hm, fun W => wrapped_any c d _ _ W dx dy (by omega) (by omega)⟩ : ∃ c d, (∀ W t, (binOp .add t (.complex .f64 x0 y0) (.complex .f64 a b')).run Tryz.prog W = .ok (.complex .f64 c d) W) ∧ ∀ W, Calls Tryz.prog 256 #[.complex .f64 c d] W fun e w' => (∃ c d, e = .returned (.complex .f64 c d) ∧ IsPt c d (add s.p (pt v))) ∧ W = w'))
  have P := Lib.hid (fun W => Point_any v W hv)
  have H := Lib.hid h
  clear h hv o1 o2 o3 o4
  obtain ⟨q, hq⟩ : ∃ q, pt v = q := ⟨_, rfl⟩
  go_enter Tryz.func243, Tryz.ntmps243
  go_wp2_with fail
  have c0 := H.out.c0
  have f0 := H.out.blk.frozen 0
  go_region_with (first
      | (go_at_call 255; with_reducible refine (P.out _).mono ?_; rintro e w1 ⟨⟨c, d, rfl, hp⟩, hb⟩; have H1 := Lib.hid (RX.keep H.out (drew_to hb)); have O1 := Lib.hid (Only.of_below (S := fun j => j = b) (drew_to hb)); obtain ⟨c1, d1, hr1, hw1⟩ := K.out _ _ hp; have C1 := Lib.hid hw1; have c0' := H1.out.c0; have f0' := H1.out.blk.frozen 0; clear hp hb hw1)
      | (go_at_call 256; with_reducible refine (C1.out _).mono ?_; rintro e w2 ⟨⟨c2, d2, rfl, hp2⟩, rfl⟩; have T := Lib.hid (rx_set H1.out c2 d2 _ hp2); clear hp2))
  all_goals
    have R := Lib.hid (And.intro T.out.1 (O1.out.trans T.out.2))
    go_wp2_with fail
    go_end0
    exact ⟨rfl, R.out⟩
theorem multiply_obj (b : Nat) (s : RS) (x : Value) (v : Int) (w : World) (hv : 0 ≤ v ∧ v < 4294967296) (h : RW w b s x) :
    Calls Tryz.prog 257 #[.pointer (some ⟨b, 0, none⟩), .int .u32 v] w fun e w' => e = .returned (.tuple #[]) ∧ RW w' b ⟨mul s.p (pt v), s.n⟩ x ∧ Only (fun j => j = b) w w' := by
  obtain ⟨x0, y0, h⟩ := h
  have o1 := h.pt.ok
  have K := Lib.hid (fun a b' (hab : IsPt a b' (pt v)) => by
    obtain ⟨k1, k2, k3, k4⟩ := no_round h.pt.ok hab.ok
    obtain ⟨c, d, hm, dx, dy⟩ := mul_parts h.pt.re h.pt.im hab.re hab.im k1 k2 k3 k4
    exact (⟨c, d, fun W t => run_complex_mul W t x0 y0 a b' c d hm, fun W => wrapped_any c d _ _ W dx dy (by omega) (by omega)⟩ : ∃ c d, (∀ W t, (binOp .mul t (.complex .f64 x0 y0) (.complex .f64 a b')).run Tryz.prog W = .ok (.complex .f64 c d) W) ∧ ∀ W, Calls Tryz.prog 256 #[.complex .f64 c d] W fun e w' => (∃ c d, e = .returned (.complex .f64 c d) ∧ IsPt c d (mul s.p (pt v))) ∧ W = w'))
  have P := Lib.hid (fun W => Point_any v W hv)
  have H := Lib.hid h
  clear h hv o1
  obtain ⟨q, hq⟩ : ∃ q, pt v = q := ⟨_, rfl⟩
  go_enter Tryz.func257, Tryz.ntmps257
  go_wp2_with fail
  have c0 := H.out.c0
  have f0 := H.out.blk.frozen 0
  go_region_with (first
      | (go_at_call 255; with_reducible refine (P.out _).mono ?_; rintro e w1 ⟨⟨c, d, rfl, hp⟩, hb⟩; have H1 := Lib.hid (RX.keep H.out (drew_to hb)); have O1 := Lib.hid (Only.of_below (S := fun j => j = b) (drew_to hb)); obtain ⟨c1, d1, hr1, hw1⟩ := K.out _ _ hp; have C1 := Lib.hid hw1; have c0' := H1.out.c0; have f0' := H1.out.blk.frozen 0; clear hp hb hw1)
      | (go_at_call 256; with_reducible refine (C1.out _).mono ?_; rintro e w2 ⟨⟨c2, d2, rfl, hp2⟩, rfl⟩; have T := Lib.hid (rx_set H1.out c2 d2 _ hp2); clear hp2))
  all_goals
    have R := Lib.hid (And.intro T.out.1 (O1.out.trans T.out.2))
    go_wp2_with fail
    go_end0
    exact ⟨rfl, R.out⟩
theorem turn_obj (b : Nat) (s : RS) (x : Value) (v : Int) (w : World) (hv : 0 ≤ v ∧ v < 4294967296) (h : RW w b s x) :
    Calls Tryz.prog 258 #[.pointer (some ⟨b, 0, none⟩), .int .u32 v] w fun e w' => e = .returned (.tuple #[]) ∧ RW w' b ⟨turn s.p v.toNat, s.n⟩ x ∧ Only (fun j => j = b) w w' := by
  obtain ⟨x0, y0, h⟩ := h
  have P := Lib.hid (fun W => turned_any x0 y0 s.p v W h.pt hv)
  have H := Lib.hid h
  have c0 := h.c0
  have f0 := h.blk.frozen 0
  clear h hv
  go_enter Tryz.func258, Tryz.ntmps258
  go_wp2_with fail
  refine (P.out _).mono ?_
  rintro e w1 ⟨⟨c, d, rfl, hp⟩, rfl⟩
  have T := Lib.hid (rx_set H.out c d _ hp)
  clear hp
  go_wp2_with fail
  go_end0
  exact ⟨rfl, T.out⟩
theorem incR_b (s : RS) : 0 ≤ incR s ∧ incR s < 4294967296 := by unfold incR; omega
theorem stepPlus_any (b : Nat) (s : RS) (x : Value) (v : Int) (w : World) (hv : 0 ≤ v ∧ v < 4294967296) (h : RW w b s x) :
    Calls Tryz.prog 251 #[.pointer (some ⟨b, 0, none⟩), .int .u32 v] w fun e w' => e = .returned (.tuple #[]) ∧ RW w' b ⟨add s.p (pt v), incR s⟩ x ∧ Only (fun j => j = b) w w' := by
  have P := Lib.hid (add_obj b s x v w hv h)
  have ei : IntKind.u32.wrap (s.n + 1) = incR s := IntKind.wrap_u32 _
  have ei2 : (s.n + 1) % 4294967296 = incR s := rfl
  have ib := Lib.hid (incR_b s)
  obtain ⟨n, hn⟩ : ∃ n, incR s = n := ⟨_, rfl⟩
  rw [hn] at ei ei2 ib
  rw [hn]
  obtain ⟨p, hp⟩ : ∃ p, add s.p (pt v) = p := ⟨_, rfl⟩
  rw [hp] at P
  rw [hp]
  clear h hv hn hp
  go_enter Tryz.func251, Tryz.ntmps251
  go_wp2_with fail
  refine P.out.mono ?_
  rintro e w1 ⟨rfl, ⟨x1, y1, h1⟩, h2⟩
  have O := Lib.hid h2
  have T := Lib.hid (rx_inc h1 n ib.out)
  have c1 := h1.c1
  have f1 := h1.blk.frozen 1
  clear h1 h2
  go_wp2_with fail
  go_end0
  exact ⟨rfl, T.out.1, O.out.trans T.out.2⟩
theorem stepTimes_any (b : Nat) (s : RS) (x : Value) (v : Int) (w : World) (hv : 0 ≤ v ∧ v < 4294967296) (h : RW w b s x) :
    Calls Tryz.prog 252 #[.pointer (some ⟨b, 0, none⟩), .int .u32 v] w fun e w' => e = .returned (.tuple #[]) ∧ RW w' b ⟨mul s.p (pt v), incR s⟩ x ∧ Only (fun j => j = b) w w' := by
  have P := Lib.hid (multiply_obj b s x v w hv h)
  have ei : IntKind.u32.wrap (s.n + 1) = incR s := IntKind.wrap_u32 _
  have ei2 : (s.n + 1) % 4294967296 = incR s := rfl
  have ib := Lib.hid (incR_b s)
  obtain ⟨n, hn⟩ : ∃ n, incR s = n := ⟨_, rfl⟩
  rw [hn] at ei ei2 ib
  rw [hn]
  obtain ⟨p, hp⟩ : ∃ p, mul s.p (pt v) = p := ⟨_, rfl⟩
  rw [hp] at P
  rw [hp]
  clear h hv hn hp
  go_enter Tryz.func252, Tryz.ntmps252
  go_wp2_with fail
  refine P.out.mono ?_
  rintro e w1 ⟨rfl, ⟨x1, y1, h1⟩, h2⟩
  have O := Lib.hid h2
  have T := Lib.hid (rx_inc h1 n ib.out)
  have c1 := h1.c1
  have f1 := h1.blk.frozen 1
  clear h1 h2
  go_wp2_with fail
  go_end0
  exact ⟨rfl, T.out.1, O.out.trans T.out.2⟩
theorem stepTurn_any (b : Nat) (s : RS) (x : Value) (v : Int) (w : World) (hv : 0 ≤ v ∧ v < 4294967296) (h : RW w b s x) :
    Calls Tryz.prog 253 #[.pointer (some ⟨b, 0, none⟩), .int .u32 v] w fun e w' => e = .returned (.tuple #[]) ∧ RW w' b ⟨turn s.p v.toNat, incR s⟩ x ∧ Only (fun j => j = b) w w' := by
  have P := Lib.hid (turn_obj b s x v w hv h)
  have ei : IntKind.u32.wrap (s.n + 1) = incR s := IntKind.wrap_u32 _
  have ei2 : (s.n + 1) % 4294967296 = incR s := rfl
  have ib := Lib.hid (incR_b s)
  obtain ⟨n, hn⟩ : ∃ n, incR s = n := ⟨_, rfl⟩
  rw [hn] at ei ei2 ib
  rw [hn]
  obtain ⟨p, hp⟩ : ∃ p, turn s.p v.toNat = p := ⟨_, rfl⟩
  rw [hp] at P
  rw [hp]
  clear h hv hn hp
  go_enter Tryz.func253, Tryz.ntmps253
  go_wp2_with fail
  refine P.out.mono ?_
  rintro e w1 ⟨rfl, ⟨x1, y1, h1⟩, h2⟩
  have O := Lib.hid h2
  have T := Lib.hid (rx_inc h1 n ib.out)
  have c1 := h1.c1
  have f1 := h1.blk.frozen 1
  clear h1 h2
  go_wp2_with fail
  go_end0
  exact ⟨rfl, T.out.1, O.out.trans T.out.2⟩
theorem rotor_info : (Tryz.prog.info? 134).isSome = true := by kernel_rfl
theorem eq_own (a : Addr) (w : World) : (binOp .eql 93 (.pointer (some a)) (.pointer (some a))).run Tryz.prog w = .ok (.bool true) w := by
  obtain ⟨j, hj⟩ := Option.isSome_iff_exists.1 rotor_info
  exact run_eql_ptr_same w a Tryz.underlying93 hj
theorem eq_nil (a : Addr) (w : World) : (binOp .eql 93 (.pointer none) (.pointer (some a))).run Tryz.prog w = .ok (.bool false) w := by
  have h : ∀ d : Nat, (Op.equalIn (d + 1) 93 (.pointer none) (.pointer (some a))).run Tryz.prog w = .ok false w := fun d => by
    simp [Op.equalIn, run_underlying Tryz.underlying93]
  simp only [binOp]
  simp [Op.equal, Op.maxDepth, h 9999]
abbrev me (b : Nat) : Value := .pointer (some ⟨b, 0, none⟩)
theorem is_yes (b : Nat) (w : World) (h : w.cell? ⟨b, 2, none⟩ = some (.pointer (some ⟨b, 0, none⟩))) :
    Calls Tryz.prog 247 #[.pointer (some ⟨b, 0, none⟩)] w fun e w' => e = .returned (.bool true) ∧ w = w' := by
  have he := eq_own ⟨b, 0, none⟩ w
  go_enter Tryz.func247, Tryz.ntmps247
  go_wp2_with fail
  go_ret
  exact ⟨rfl, rfl⟩
/-- The cells of one that was not answered. -/
def zeroCells : Array Value := #[.complex .f64 0 0, .int .u32 0, .pointer none]
/-- No rotor: none at all, or one that was not answered. -/
def ZeroAt (w : World) (b : Nat) : Prop := RW w b zeroR (.pointer none)
theorem pt_zero : IsPt 0 0 zeroR.p := ⟨den_nought, den_nought, ⟨by show (-32768 : Int) ≤ 0; omega, by show (0 : Int) ≤ 32767; omega⟩, ⟨by show (-32768 : Int) ≤ 0; omega, by show (0 : Int) ≤ 32767; omega⟩⟩
theorem zero_new (w : World) : ZeroAt (w.alloc (.cells zeroCells 134)) w.heap.size := ⟨0, 0, Blk.new w _ (cellsR 0 0 0 (.pointer none)), pt_zero, by show (0 : Int) ≤ 0; omega, by show (0 : Int) < _; omega⟩
theorem ZeroAt.keep {w w' : World} {b : Nat} (h : ZeroAt w b) (hb : Below w.heap.size w w') : ZeroAt w' b := RW.keep h hb
def Non (w : World) (v : Value) : Prop := v = .pointer none ∨ ∃ b, v = .pointer (some ⟨b, 0, none⟩) ∧ ZeroAt w b
theorem Non.keep {w w' : World} {v : Value} (h : Non w v) (hb : Below w.heap.size w w') : Non w' v := by
  rcases h with rfl | ⟨b, rfl, h⟩
  · exact .inl rfl
  · exact .inr ⟨b, rfl, h.keep hb⟩
theorem is_non (v : Value) (w : World) (h : Non w v) :
    Calls Tryz.prog 247 #[v] w fun e w' => e = .returned (.bool false) ∧ w = w' := by
  rcases h with rfl | ⟨b, rfl, h⟩
  · go_enter Tryz.func247, Tryz.ntmps247
    go_wp2_with fail
    go_ret
    exact ⟨rfl, rfl⟩
  · have c1 := RW.c2 h
    have he := eq_nil ⟨b, 0, none⟩ w
    clear h
    go_enter Tryz.func247, Tryz.ntmps247
    go_wp2_with fail
    go_ret
    exact ⟨rfl, rfl⟩
theorem rotor_yes (b : Nat) (w : World) (h : w.cell? ⟨b, 2, none⟩ = some (.pointer (some ⟨b, 0, none⟩))) :
    Calls Tryz.prog 244 #[.pointer (some ⟨b, 0, none⟩)] w fun e w' => e = .returned (.pointer (some ⟨b, 0, none⟩)) ∧ w = w' := by
  have H := Lib.hid (is_yes b w h)
  clear h
  go_enter Tryz.func244, Tryz.ntmps244
  go_wp2_with fail
  refine H.out.mono ?_
  rintro e w1 ⟨rfl, rfl⟩
  go_wp2_with fail
  go_ret
  exact ⟨rfl, rfl⟩
/-- A fresh one that nobody has: its block is new. -/
theorem rotor_non (v : Value) (w : World) (h : Non w v) :
    Calls Tryz.prog 244 #[v] w fun e w' => (∃ b, e = .returned (me b) ∧ ZeroAt w' b ∧ w.heap.size ≤ b) ∧ Below w.heap.size w w' := by
  have H := Lib.hid (is_non v w h)
  clear h
  go_enter Tryz.func244, Tryz.ntmps244
  go_wp2_with fail
  refine H.out.mono ?_
  rintro e w1 ⟨rfl, rfl⟩
  go_wp2_with fail
  go_ret
  exact ⟨⟨_, rfl, zero_new w, Nat.le_refl _⟩, (Below.refl _ _).alloc (Nat.le_refl _) _⟩
theorem laid_any (x y : Nat) (s : RS) (v : Value) (w : World) (h : IsPt x y s.p) (hn : 0 ≤ s.n ∧ s.n < 4294967296) :
    Calls Tryz.prog 67 #[.agg #[.complex .f64 x y, .int .u32 s.n, v]] w fun e w' => (∃ b, e = .returned (me b) ∧ RW w' b s (me b) ∧ w.heap.size ≤ b) ∧ Below w.heap.size w w' := by
  have H := Lib.hid (And.intro h hn)
  clear h hn
  go_enter Tryz.func67, Tryz.ntmps67
  go_wp2_with fail
  go_ret
  refine ⟨⟨w.heap.size, rfl, ⟨x, y, Blk.new w _ (cellsR x y s.n (me w.heap.size)), H.out.1, H.out.2⟩, Nat.le_refl _⟩, ?_⟩
  exact (Below.refl _ _).alloc (Nat.le_refl _) _
theorem keyK : Keyed Tryz.prog 3 := int_keyed Tryz.underlying3
theorem key_mk (k : Int) (hk : I64 k) : keyOf Tryz.prog 3 (.int .i64 k) = some (.int .i64 k) := keyOf_int_mk Tryz.underlying3 (WalkArith.wf_i64 ⟨hk.1, hk.2⟩)
def meth (f : Nat) (b : Nat) : Value := .func (.func f) #[.pointer (some ⟨b, 0, none⟩)] #[]
def readL (b : Nat) : List (Int × Value) := [(4, meth 249 b), (0, meth 248 b)]
def writeL (b : Nat) : List (Int × Value) := [(3, meth 253 b), (2, meth 252 b), (1, meth 251 b), (0, meth 250 b)]
theorem reads_any (b : Nat) (w : World) :
    Calls Tryz.prog 245 #[.pointer (some ⟨b, 0, none⟩)] w fun e w' => (∃ g, e = .returned (.map (some g)) ∧ FM Tryz.prog 3 .i64 w' g (readL b)) ∧ Below w.heap.size w w' := by
  have hmm := @run_makeMap Tryz.prog
  have hmf : ∀ w f r, (Instr.makeFunc (.func f) r #[]).run Tryz.prog w = .ok (.func (.func f) r #[]) w := fun w f r => rfl
  go_enter Tryz.func245, Tryz.ntmps245
  go_wp2_with (with_reducible refine at_insert _ _ _ _ rfl ?_)
  refine Lib.hid ?_
  refine list_letter ?_
  intro W hW
  have B0 := Lib.hid (show Below w.heap.size w W by rw [hW.out]; exact (Below.refl w.heap.size w).alloc (Nat.le_refl _) _)
  have H0 := Lib.hid (show FM Tryz.prog 3 .i64 W w.heap.size [] by rw [hW.out]; exact FM.made _ _ _ w)
  clear hW
  obtain ⟨g, hg⟩ : ∃ g, w.heap.size = g := ⟨_, rfl⟩
  rw [hg] at B0 H0
  rw [hg]
  refine wpList_insert_fm _ rfl _ _ _ _ rfl 3 217 .i64 keyK Tryz.underlying219 g _ rfl H0.out (by simp [maxLen]) 0 (meth 248 b) rfl rfl (key_mk 0 ⟨by decide, by decide⟩) ?_
  intro w1 hown hon
  have H1 := Lib.hid hown
  have B1 := Lib.hid (B0.out.trans (hon.below (Nat.le_of_lt H0.out.lt) (fun k e => by have : k = g := e; omega)))
  clear hown hon
  go_wp2_with (with_reducible refine at_insert _ _ _ _ rfl ?_)
  refine Lib.hid ?_
  refine wpList_insert_fm _ rfl _ _ _ _ rfl 3 217 .i64 keyK Tryz.underlying219 g _ rfl H1.out (by simp [maxLen]) 4 (meth 249 b) rfl rfl (key_mk 4 ⟨by decide, by decide⟩) ?_
  intro w2 hown hon
  have H2 := Lib.hid hown
  have B2 := Lib.hid (B1.out.trans (hon.below (Nat.le_of_lt H1.out.lt) (fun k e => by have : k = g := e; omega)))
  clear hown hon
  go_wp2_with fail
  go_ret
  exact ⟨⟨g, rfl, H2.out⟩, by rw [hg]; exact B2.out⟩
theorem writes_any (b : Nat) (w : World) :
    Calls Tryz.prog 246 #[.pointer (some ⟨b, 0, none⟩)] w fun e w' => (∃ g, e = .returned (.map (some g)) ∧ FM Tryz.prog 3 .i64 w' g (writeL b)) ∧ Below w.heap.size w w' := by
  have hmm := @run_makeMap Tryz.prog
  have hmf : ∀ w f r, (Instr.makeFunc (.func f) r #[]).run Tryz.prog w = .ok (.func (.func f) r #[]) w := fun w f r => rfl
  go_enter Tryz.func246, Tryz.ntmps246
  go_wp2_with (with_reducible refine at_insert _ _ _ _ rfl ?_)
  refine Lib.hid ?_
  refine list_letter ?_
  intro W hW
  have B0 := Lib.hid (show Below w.heap.size w W by rw [hW.out]; exact (Below.refl w.heap.size w).alloc (Nat.le_refl _) _)
  have H0 := Lib.hid (show FM Tryz.prog 3 .i64 W w.heap.size [] by rw [hW.out]; exact FM.made _ _ _ w)
  clear hW
  obtain ⟨g, hg⟩ : ∃ g, w.heap.size = g := ⟨_, rfl⟩
  rw [hg] at B0 H0
  rw [hg]
  refine wpList_insert_fm _ rfl _ _ _ _ rfl 3 180 .i64 keyK Tryz.underlying222 g _ rfl H0.out (by simp [maxLen]) 0 (meth 250 b) rfl rfl (key_mk 0 ⟨by decide, by decide⟩) ?_
  intro w1 hown hon
  have H1 := Lib.hid hown
  have B1 := Lib.hid (B0.out.trans (hon.below (Nat.le_of_lt H0.out.lt) (fun k e => by have : k = g := e; omega)))
  clear hown hon
  go_wp2_with (with_reducible refine at_insert _ _ _ _ rfl ?_)
  refine Lib.hid ?_
  refine wpList_insert_fm _ rfl _ _ _ _ rfl 3 180 .i64 keyK Tryz.underlying222 g _ rfl H1.out (by simp [maxLen]) 1 (meth 251 b) rfl rfl (key_mk 1 ⟨by decide, by decide⟩) ?_
  intro w2 hown hon
  have H2 := Lib.hid hown
  have B2 := Lib.hid (B1.out.trans (hon.below (Nat.le_of_lt H1.out.lt) (fun k e => by have : k = g := e; omega)))
  clear hown hon
  go_wp2_with (with_reducible refine at_insert _ _ _ _ rfl ?_)
  refine Lib.hid ?_
  refine wpList_insert_fm _ rfl _ _ _ _ rfl 3 180 .i64 keyK Tryz.underlying222 g _ rfl H2.out (by simp [maxLen]) 2 (meth 252 b) rfl rfl (key_mk 2 ⟨by decide, by decide⟩) ?_
  intro w3 hown hon
  have H3 := Lib.hid hown
  have B3 := Lib.hid (B2.out.trans (hon.below (Nat.le_of_lt H2.out.lt) (fun k e => by have : k = g := e; omega)))
  clear hown hon
  go_wp2_with (with_reducible refine at_insert _ _ _ _ rfl ?_)
  refine Lib.hid ?_
  refine wpList_insert_fm _ rfl _ _ _ _ rfl 3 180 .i64 keyK Tryz.underlying222 g _ rfl H3.out (by simp [maxLen]) 3 (meth 253 b) rfl rfl (key_mk 3 ⟨by decide, by decide⟩) ?_
  intro w4 hown hon
  have H4 := Lib.hid hown
  have B4 := Lib.hid (B3.out.trans (hon.below (Nat.le_of_lt H3.out.lt) (fun k e => by have : k = g := e; omega)))
  clear hown hon
  go_wp2_with fail
  go_ret
  exact ⟨⟨g, rfl, H4.out⟩, by rw [hg]; exact B4.out⟩
end Go.Proofs.YtknhgfofmkpnfaaGreat.Rotor
/- Package rotor's contracts. Rot w b s O: the rotor in block b has s; O: the blocks that are its own. -/
namespace Go.Proofs.YtknhgfofmkpnfaaGreat.Rotor
open Go.RowKit Go.Maps Fifo Orow Exact Ring Fmap
set_option linter.unusedVariables false

def Rot (w : World) (b : Nat) (s : RS) (O : Nat → Prop) : Prop := RW w b s (me b) ∧ ∀ j, O j ↔ j = b
theorem Rot.only {S O : Nat → Prop} {w w' : World} {b : Nat} {s : RS} (h : Rot w b s O) (ho : Only S w w') (hn : ∀ j, O j → ¬ S j) : Rot w' b s O := ⟨h.1.only ho (hn b ((h.2 b).2 rfl)), h.2⟩
theorem Rot.keep {O : Nat → Prop} {w w' : World} {b : Nat} {s : RS} (h : Rot w b s O) (hb : Below w.heap.size w w') : Rot w' b s O := ⟨h.1.keep hb, h.2⟩
theorem Rot.lt {O : Nat → Prop} {w : World} {b : Nat} {s : RS} (h : Rot w b s O) : ∀ j, O j → j < w.heap.size := fun j hj => by rw [(h.2 j).1 hj]; exact h.1.lt
theorem Rot.ok {O : Nat → Prop} {w : World} {b : Nat} {s : RS} (h : Rot w b s O) : OkR s := h.1.ok
theorem New_any (w : World) :
    Calls Tryz.prog 46 #[] w fun e w' => (∃ b O, e = .returned (.pointer (some ⟨b, 0, none⟩)) ∧ Rot w' b zeroR O ∧ ∀ j, O j → w.heap.size ≤ j) ∧ Below w.heap.size w w' := by
  have L := Lib.hid (fun W => laid_any 0 0 zeroR (.pointer none) W pt_zero ⟨by show (0 : Int) ≤ 0; omega, by show (0 : Int) < _; omega⟩)
  go_enter Tryz.func46, Tryz.ntmps46
  go_wp2_with fail
  refine (L.out _).mono ?_
  rintro e w1 ⟨⟨b, rfl, h1, h2⟩, hb⟩
  have R := Lib.hid (And.intro h1 (And.intro h2 hb))
  clear h1 h2 hb
  go_wp2_with fail
  go_ret
  exact ⟨⟨b, fun j => j = b, rfl, ⟨R.out.1, fun j => Iff.rfl⟩, fun j e => by have e : j = b := e; rw [e]; exact R.out.2.1⟩, R.out.2.2⟩
theorem fzero_r (w : World) : (zeroValue 217).run Tryz.prog w = .ok .nilFunc w := by kernel_rfl
theorem fzero_w (w : World) : (zeroValue 180).run Tryz.prog w = .ok .nilFunc w := by kernel_rfl
theorem look_r {w : World} {g b : Nat} (h : FM Tryz.prog 3 .i64 w g (readL b)) (k : Int) (hk : I64 k) : (Instr.lookup 219 (.map (some g)) (.int .i64 k) true).run Tryz.prog w = .ok (.tuple #[(atR (readL b) k).getD .nilFunc, .bool (atR (readL b) k).isSome]) w :=
  h.look keyK Tryz.underlying219 (fzero_r w) k (key_mk k hk)
theorem look_w {w : World} {g b : Nat} (h : FM Tryz.prog 3 .i64 w g (writeL b)) (k : Int) (hk : I64 k) : (Instr.lookup 222 (.map (some g)) (.int .i64 k) true).run Tryz.prog w = .ok (.tuple #[(atR (writeL b) k).getD .nilFunc, .bool (atR (writeL b) k).isSome]) w :=
  h.look keyK Tryz.underlying222 (fzero_w w) k (key_mk k hk)
theorem atR_r {b : Nat} {k : Int} (h0 : ¬ k = 0) (h4 : ¬ k = 4) : atR (readL b) k = none := by
  simp only [readL, atR]
  rw [if_neg h4, if_neg h0]
theorem atR_w {b : Nat} {k : Int} (h0 : ¬ k = 0) (h1 : ¬ k = 1) (h2 : ¬ k = 2) (h3 : ¬ k = 3) : atR (writeL b) k = none := by
  simp only [writeL, atR]
  rw [if_neg h3, if_neg h2, if_neg h1, if_neg h0]
theorem read_0 (v : Value) (s : RS) (x : Value) (w : World) (ht : Calls Tryz.prog 244 #[v] w fun e w' => (∃ b, e = .returned (me b) ∧ RW w' b s x) ∧ Below w.heap.size w w') :
    Calls Tryz.prog 241 #[v, .int .i64 0] w fun e w' => e = .returned (.int .u32 (wd s.p)) ∧ Below w.heap.size w w' := by
  have hr : I64 0 := ⟨by decide, by decide⟩
  have T := Lib.hid ht
  have Kr := Lib.hid hr
  clear ht hr
  go_enter Tryz.func241, Tryz.ntmps241
  go_wp2_with fail
  refine T.out.mono ?_
  rintro e w1 ⟨⟨b, rfl, h1⟩, hb1⟩
  have T1 := Lib.hid h1
  have B1 := Lib.hid hb1
  clear h1 hb1
  go_wp2_with fail
  refine (reads_any b w1).mono ?_
  rintro e w2 ⟨⟨g, rfl, hm⟩, hb⟩
  have T2 := Lib.hid (T1.out.keep hb)
  have B2 := Lib.hid (B1.out.trans (hb.mono B1.out.size))
  have lk := look_r hm _ Kr.out
  clear hm hb
  rw [show atR (readL b) 0 = some (meth 248 b) from rfl] at lk
  simp only [Option.getD_some, Option.isSome_some, meth] at lk
  go_wp2_with fail
  refine (word_any b s x w2 T2.out).mono ?_
  rintro e w3 ⟨rfl, rfl⟩
  go_wp2_with fail
  go_ret
  exact ⟨rfl, B2.out⟩
theorem read_4 (v : Value) (s : RS) (x : Value) (w : World) (ht : Calls Tryz.prog 244 #[v] w fun e w' => (∃ b, e = .returned (me b) ∧ RW w' b s x) ∧ Below w.heap.size w w') :
    Calls Tryz.prog 241 #[v, .int .i64 4] w fun e w' => e = .returned (.int .u32 s.n) ∧ Below w.heap.size w w' := by
  have hr : I64 4 := ⟨by decide, by decide⟩
  have T := Lib.hid ht
  have Kr := Lib.hid hr
  clear ht hr
  go_enter Tryz.func241, Tryz.ntmps241
  go_wp2_with fail
  refine T.out.mono ?_
  rintro e w1 ⟨⟨b, rfl, h1⟩, hb1⟩
  have T1 := Lib.hid h1
  have B1 := Lib.hid hb1
  clear h1 hb1
  go_wp2_with fail
  refine (reads_any b w1).mono ?_
  rintro e w2 ⟨⟨g, rfl, hm⟩, hb⟩
  have T2 := Lib.hid (T1.out.keep hb)
  have B2 := Lib.hid (B1.out.trans (hb.mono B1.out.size))
  have lk := look_r hm _ Kr.out
  clear hm hb
  rw [show atR (readL b) 4 = some (meth 249 b) from rfl] at lk
  simp only [Option.getD_some, Option.isSome_some, meth] at lk
  go_wp2_with fail
  refine (stepsNow_any b s x w2 T2.out).mono ?_
  rintro e w3 ⟨rfl, rfl⟩
  go_wp2_with fail
  go_ret
  exact ⟨rfl, B2.out⟩
theorem read_none (v : Value) (s : RS) (x : Value) (reg : Int) (w : World) (hr : I64 reg) (h0 : ¬ reg = 0) (h4 : ¬ reg = 4) (ht : Calls Tryz.prog 244 #[v] w fun e w' => (∃ b, e = .returned (me b) ∧ RW w' b s x) ∧ Below w.heap.size w w') :
    Calls Tryz.prog 241 #[v, .int .i64 reg] w fun e w' => e = .returned (.int .u32 0) ∧ Below w.heap.size w w' := by
  have E := Lib.hid (fun b => atR_r (b := b) h0 h4)
  clear h0 h4
  have T := Lib.hid ht
  have Kr := Lib.hid hr
  clear ht hr
  go_enter Tryz.func241, Tryz.ntmps241
  go_wp2_with fail
  refine T.out.mono ?_
  rintro e w1 ⟨⟨b, rfl, h1⟩, hb1⟩
  have T1 := Lib.hid h1
  have B1 := Lib.hid hb1
  clear h1 hb1
  go_wp2_with fail
  refine (reads_any b w1).mono ?_
  rintro e w2 ⟨⟨g, rfl, hm⟩, hb⟩
  have T2 := Lib.hid (T1.out.keep hb)
  have B2 := Lib.hid (B1.out.trans (hb.mono B1.out.size))
  have lk := look_r hm _ Kr.out
  clear hm hb
  rw [E.out b] at lk
  simp only [Option.getD_none, Option.isSome_none] at lk
  go_wp2_with fail
  go_ret
  exact ⟨rfl, B2.out⟩
theorem read_q (v : Value) (s : RS) (x : Value) (reg : Int) (w : World) (hr : I64 reg) (ht : Calls Tryz.prog 244 #[v] w fun e w' => (∃ b, e = .returned (me b) ∧ RW w' b s x) ∧ Below w.heap.size w w') :
    Calls Tryz.prog 241 #[v, .int .i64 reg] w fun e w' => e = .returned (.int .u32 (readR s reg)) ∧ Below w.heap.size w w' := by
  unfold readR
  by_cases h0 : reg = 0
  · subst h0
    rw [if_pos rfl]
    exact read_0 v s x w ht
  · rw [if_neg h0]
    by_cases h4 : reg = 4
    · subst h4
      rw [if_pos rfl]
      exact read_4 v s x w ht
    · rw [if_neg h4]
      exact read_none v s x reg w hr h0 h4 ht
theorem write_0 (v : Value) (s : RS) (x : Value) (n : Int) (G : Nat → Prop) (w : World) (hn : 0 ≤ n ∧ n < 4294967296) (ht : Calls Tryz.prog 244 #[v] w fun e w' => (∃ b, e = .returned (me b) ∧ RW w' b s x ∧ G b) ∧ Below w.heap.size w w') :
    Calls Tryz.prog 242 #[v, .int .i64 0, .int .u32 n] w fun e w' => e = .returned (.tuple #[]) ∧ ∃ b, G b ∧ RW w' b ⟨pt n, s.n⟩ x ∧ Only (fun j => j = b) w w' := by
  have hr : I64 0 := ⟨by decide, by decide⟩
  have T := Lib.hid ht
  have Kr := Lib.hid hr
  have HN := Lib.hid hn
  clear ht hr hn
  go_enter Tryz.func242, Tryz.ntmps242
  go_wp2_with fail
  refine T.out.mono ?_
  rintro e w1 ⟨⟨b, rfl, h1, h2⟩, hb1⟩
  have T1 := Lib.hid h1
  have HG := Lib.hid h2
  have B1 := Lib.hid hb1
  clear h1 h2 hb1
  go_wp2_with fail
  refine (writes_any b w1).mono ?_
  rintro e w2 ⟨⟨g, rfl, hm⟩, hb⟩
  have T2 := Lib.hid (T1.out.keep hb)
  have B2 := Lib.hid (B1.out.trans (hb.mono B1.out.size))
  have lk := look_w hm _ Kr.out
  clear hm hb
  rw [show atR (writeL b) 0 = some (meth 250 b) from rfl] at lk
  simp only [Option.getD_some, Option.isSome_some, meth] at lk
  go_wp2_with fail
  refine (become_any b s x n w2 HN.out T2.out).mono ?_
  rintro e w3 ⟨rfl, h3, h4⟩
  have R := Lib.hid (And.intro h3 (show Only (fun j => j = b) w w3 from (Only.of_below B2.out).trans h4))
  clear h3 h4
  go_wp2_with fail
  go_end0
  exact ⟨rfl, b, HG.out, R.out⟩
theorem write_1 (v : Value) (s : RS) (x : Value) (n : Int) (G : Nat → Prop) (w : World) (hn : 0 ≤ n ∧ n < 4294967296) (ht : Calls Tryz.prog 244 #[v] w fun e w' => (∃ b, e = .returned (me b) ∧ RW w' b s x ∧ G b) ∧ Below w.heap.size w w') :
    Calls Tryz.prog 242 #[v, .int .i64 1, .int .u32 n] w fun e w' => e = .returned (.tuple #[]) ∧ ∃ b, G b ∧ RW w' b ⟨add s.p (pt n), incR s⟩ x ∧ Only (fun j => j = b) w w' := by
  have hr : I64 1 := ⟨by decide, by decide⟩
  have T := Lib.hid ht
  have Kr := Lib.hid hr
  have HN := Lib.hid hn
  clear ht hr hn
  go_enter Tryz.func242, Tryz.ntmps242
  go_wp2_with fail
  refine T.out.mono ?_
  rintro e w1 ⟨⟨b, rfl, h1, h2⟩, hb1⟩
  have T1 := Lib.hid h1
  have HG := Lib.hid h2
  have B1 := Lib.hid hb1
  clear h1 h2 hb1
  go_wp2_with fail
  refine (writes_any b w1).mono ?_
  rintro e w2 ⟨⟨g, rfl, hm⟩, hb⟩
  have T2 := Lib.hid (T1.out.keep hb)
  have B2 := Lib.hid (B1.out.trans (hb.mono B1.out.size))
  have lk := look_w hm _ Kr.out
  clear hm hb
  rw [show atR (writeL b) 1 = some (meth 251 b) from rfl] at lk
  simp only [Option.getD_some, Option.isSome_some, meth] at lk
  go_wp2_with fail
  refine (stepPlus_any b s x n w2 HN.out T2.out).mono ?_
  rintro e w3 ⟨rfl, h3, h4⟩
  have R := Lib.hid (And.intro h3 (show Only (fun j => j = b) w w3 from (Only.of_below B2.out).trans h4))
  clear h3 h4
  go_wp2_with fail
  go_end0
  exact ⟨rfl, b, HG.out, R.out⟩
theorem write_2 (v : Value) (s : RS) (x : Value) (n : Int) (G : Nat → Prop) (w : World) (hn : 0 ≤ n ∧ n < 4294967296) (ht : Calls Tryz.prog 244 #[v] w fun e w' => (∃ b, e = .returned (me b) ∧ RW w' b s x ∧ G b) ∧ Below w.heap.size w w') :
    Calls Tryz.prog 242 #[v, .int .i64 2, .int .u32 n] w fun e w' => e = .returned (.tuple #[]) ∧ ∃ b, G b ∧ RW w' b ⟨mul s.p (pt n), incR s⟩ x ∧ Only (fun j => j = b) w w' := by
  have hr : I64 2 := ⟨by decide, by decide⟩
  have T := Lib.hid ht
  have Kr := Lib.hid hr
  have HN := Lib.hid hn
  clear ht hr hn
  go_enter Tryz.func242, Tryz.ntmps242
  go_wp2_with fail
  refine T.out.mono ?_
  rintro e w1 ⟨⟨b, rfl, h1, h2⟩, hb1⟩
  have T1 := Lib.hid h1
  have HG := Lib.hid h2
  have B1 := Lib.hid hb1
  clear h1 h2 hb1
  go_wp2_with fail
  refine (writes_any b w1).mono ?_
  rintro e w2 ⟨⟨g, rfl, hm⟩, hb⟩
  have T2 := Lib.hid (T1.out.keep hb)
  have B2 := Lib.hid (B1.out.trans (hb.mono B1.out.size))
  have lk := look_w hm _ Kr.out
  clear hm hb
  rw [show atR (writeL b) 2 = some (meth 252 b) from rfl] at lk
  simp only [Option.getD_some, Option.isSome_some, meth] at lk
  go_wp2_with fail
  refine (stepTimes_any b s x n w2 HN.out T2.out).mono ?_
  rintro e w3 ⟨rfl, h3, h4⟩
  have R := Lib.hid (And.intro h3 (show Only (fun j => j = b) w w3 from (Only.of_below B2.out).trans h4))
  clear h3 h4
  go_wp2_with fail
  go_end0
  exact ⟨rfl, b, HG.out, R.out⟩
theorem write_3 (v : Value) (s : RS) (x : Value) (n : Int) (G : Nat → Prop) (w : World) (hn : 0 ≤ n ∧ n < 4294967296) (ht : Calls Tryz.prog 244 #[v] w fun e w' => (∃ b, e = .returned (me b) ∧ RW w' b s x ∧ G b) ∧ Below w.heap.size w w') :
    Calls Tryz.prog 242 #[v, .int .i64 3, .int .u32 n] w fun e w' => e = .returned (.tuple #[]) ∧ ∃ b, G b ∧ RW w' b ⟨turn s.p n.toNat, incR s⟩ x ∧ Only (fun j => j = b) w w' := by
  have hr : I64 3 := ⟨by decide, by decide⟩
  have T := Lib.hid ht
  have Kr := Lib.hid hr
  have HN := Lib.hid hn
  clear ht hr hn
  go_enter Tryz.func242, Tryz.ntmps242
  go_wp2_with fail
  refine T.out.mono ?_
  rintro e w1 ⟨⟨b, rfl, h1, h2⟩, hb1⟩
  have T1 := Lib.hid h1
  have HG := Lib.hid h2
  have B1 := Lib.hid hb1
  clear h1 h2 hb1
  go_wp2_with fail
  refine (writes_any b w1).mono ?_
  rintro e w2 ⟨⟨g, rfl, hm⟩, hb⟩
  have T2 := Lib.hid (T1.out.keep hb)
  have B2 := Lib.hid (B1.out.trans (hb.mono B1.out.size))
  have lk := look_w hm _ Kr.out
  clear hm hb
  rw [show atR (writeL b) 3 = some (meth 253 b) from rfl] at lk
  simp only [Option.getD_some, Option.isSome_some, meth] at lk
  go_wp2_with fail
  refine (stepTurn_any b s x n w2 HN.out T2.out).mono ?_
  rintro e w3 ⟨rfl, h3, h4⟩
  have R := Lib.hid (And.intro h3 (show Only (fun j => j = b) w w3 from (Only.of_below B2.out).trans h4))
  clear h3 h4
  go_wp2_with fail
  go_end0
  exact ⟨rfl, b, HG.out, R.out⟩
theorem write_none (v : Value) (s : RS) (x : Value) (reg : Int) (n : Int) (G : Nat → Prop) (w : World) (hr : I64 reg) (h0 : ¬ reg = 0) (h1 : ¬ reg = 1) (h2 : ¬ reg = 2) (h3 : ¬ reg = 3) (hn : 0 ≤ n ∧ n < 4294967296) (ht : Calls Tryz.prog 244 #[v] w fun e w' => (∃ b, e = .returned (me b) ∧ RW w' b s x ∧ G b) ∧ Below w.heap.size w w') :
    Calls Tryz.prog 242 #[v, .int .i64 reg, .int .u32 n] w fun e w' => e = .returned (.tuple #[]) ∧ ∃ b, G b ∧ RW w' b s x ∧ Only (fun j => j = b) w w' := by
  have E := Lib.hid (fun b => atR_w (b := b) h0 h1 h2 h3)
  clear h0 h1 h2 h3
  have T := Lib.hid ht
  have Kr := Lib.hid hr
  have HN := Lib.hid hn
  clear ht hr hn
  go_enter Tryz.func242, Tryz.ntmps242
  go_wp2_with fail
  refine T.out.mono ?_
  rintro e w1 ⟨⟨b, rfl, h1, h2⟩, hb1⟩
  have T1 := Lib.hid h1
  have HG := Lib.hid h2
  have B1 := Lib.hid hb1
  clear h1 h2 hb1
  go_wp2_with fail
  refine (writes_any b w1).mono ?_
  rintro e w2 ⟨⟨g, rfl, hm⟩, hb⟩
  have T2 := Lib.hid (T1.out.keep hb)
  have B2 := Lib.hid (B1.out.trans (hb.mono B1.out.size))
  have lk := look_w hm _ Kr.out
  clear hm hb
  rw [E.out b] at lk
  simp only [Option.getD_none, Option.isSome_none] at lk
  go_wp2_with fail
  go_end0
  exact ⟨rfl, b, HG.out, T2.out, Only.of_below B2.out⟩
theorem write_q (v : Value) (s : RS) (x : Value) (reg n : Int) (G : Nat → Prop) (w : World) (hr : I64 reg) (hn : 0 ≤ n ∧ n < 4294967296) (ht : Calls Tryz.prog 244 #[v] w fun e w' => (∃ b, e = .returned (me b) ∧ RW w' b s x ∧ G b) ∧ Below w.heap.size w w') :
    Calls Tryz.prog 242 #[v, .int .i64 reg, .int .u32 n] w fun e w' => e = .returned (.tuple #[]) ∧ ∃ b, G b ∧ RW w' b (writeR s reg n) x ∧ Only (fun j => j = b) w w' := by
  unfold writeR
  by_cases h0 : reg = 0
  · subst h0
    rw [if_pos rfl]
    exact write_0 v s x n G w hn ht
  rw [if_neg h0]
  by_cases h1 : reg = 1
  · subst h1
    rw [if_pos rfl]
    exact write_1 v s x n G w hn ht
  rw [if_neg h1]
  by_cases h2 : reg = 2
  · subst h2
    rw [if_pos rfl]
    exact write_2 v s x n G w hn ht
  rw [if_neg h2]
  by_cases h3 : reg = 3
  · subst h3
    rw [if_pos rfl]
    exact write_3 v s x n G w hn ht
  rw [if_neg h3]
  exact write_none v s x reg n G w hr h0 h1 h2 h3 hn ht
theorem Read_any (b : Nat) (s : RS) (O : Nat → Prop) (reg : Int) (w : World) (h1 : I64 reg) (h : Rot w b s O) :
    Calls Tryz.prog 241 #[.pointer (some ⟨b, 0, none⟩), .int .i64 reg] w fun e w' => e = .returned (.int .u32 (readR s reg)) ∧ Below w.heap.size w w' := by
  refine read_q _ s (me b) reg w h1 ((rotor_yes b w h.1.c2).mono ?_)
  rintro e w' ⟨rfl, rfl⟩
  exact ⟨⟨b, rfl, h.1⟩, Below.refl _ _⟩
theorem readR_zero (reg : Int) : readR zeroR reg = 0 := by
  unfold readR
  split
  · rfl
  · split <;> rfl
theorem Read_non (v : Value) (reg : Int) (w : World) (h1 : I64 reg) (h : Non w v) :
    Calls Tryz.prog 241 #[v, .int .i64 reg] w fun e w' => e = .returned (.int .u32 0) ∧ Below w.heap.size w w' := by
  rw [← readR_zero reg]
  refine read_q _ zeroR (.pointer none) reg w h1 ((rotor_non v w h).mono ?_)
  rintro e w' ⟨⟨b, rfl, h1, _⟩, hb⟩
  exact ⟨⟨b, rfl, h1⟩, hb⟩
theorem Write_any (b : Nat) (s : RS) (O : Nat → Prop) (reg v : Int) (w : World) (h1 : I64 reg) (h2 : 0 ≤ v ∧ v < 4294967296) (h : Rot w b s O) :
    Calls Tryz.prog 242 #[.pointer (some ⟨b, 0, none⟩), .int .i64 reg, .int .u32 v] w fun e w' => e = .returned (.tuple #[]) ∧ ∃ O', Rot w' b (writeR s reg v) O' ∧ Only O w w' ∧ ∀ j, O' j → O j ∨ w.heap.size ≤ j := by
  refine (write_q _ s (me b) reg v (fun k => k = b) w h1 h2 ((rotor_yes b w h.1.c2).mono ?_)).mono ?_
  · rintro e w' ⟨rfl, rfl⟩
    exact ⟨⟨b, rfl, h.1, rfl⟩, Below.refl _ _⟩
  · rintro e w' ⟨rfl, k, hk, a1, a2⟩
    have hk : k = b := hk
    subst hk
    exact ⟨rfl, O, ⟨a1, h.2⟩, a2.mono (fun j _ e => (h.2 j).2 e), fun j hj => .inl hj⟩
theorem Write_non (v : Value) (reg x : Int) (w : World) (h1 : I64 reg) (h2 : 0 ≤ x ∧ x < 4294967296) (h : Non w v) :
    Calls Tryz.prog 242 #[v, .int .i64 reg, .int .u32 x] w fun e w' => e = .returned (.tuple #[]) ∧ Below w.heap.size w w' := by
  refine (write_q v zeroR (.pointer none) reg x (fun k => w.heap.size ≤ k) w h1 h2 ((rotor_non v w h).mono ?_)).mono ?_
  · rintro e w' ⟨⟨b, rfl, h1, h2⟩, hb⟩
    exact ⟨⟨b, rfl, h1, h2⟩, hb⟩
  · rintro e w' ⟨rfl, k, hk, a1, a2⟩
    exact ⟨rfl, a2.below (Nat.le_refl _) (fun j e => by have : j = k := e; rw [this]; exact hk)⟩
theorem state_q (v : Value) (s : RS) (x : Value) (w : World) (ht : Calls Tryz.prog 244 #[v] w fun e w' => (∃ b, e = .returned (me b) ∧ RW w' b s x) ∧ Below w.heap.size w w') :
    Calls Tryz.prog 267 #[v] w fun e w' => e = .returned (.tuple #[.int .u32 (wd s.p), .int .u32 s.n]) ∧ Below w.heap.size w w' := by
  have T := Lib.hid ht
  clear ht
  go_enter Tryz.func267, Tryz.ntmps267
  go_wp2_with fail
  refine T.out.mono ?_
  rintro e w1 ⟨⟨b, rfl, x0, y0, h1⟩, hb1⟩
  have T1 := Lib.hid h1
  have B1 := Lib.hid hb1
  clear h1 hb1
  go_wp2_with fail
  refine wp_region_ext (by kernel_rfl) (by kernel_rfl) ?_
  intro W hW
  have TW := Lib.hid (show RX W b x0 y0 s x by rw [hW.out]; exact T1.out)
  have BW := Lib.hid (show Below w.heap.size w W by rw [hW.out]; exact B1.out)
  clear hW
  have c1 := ext_cell TW.out.c1
  have C := Lib.hid (fun p => word_any b s x (ext W p) ⟨x0, y0, TW.out.keep (ext_below W p)⟩)
  repeat (go_big_quiet_step ((go_at_call 248; with_reducible exact ext_same (C.out _))))
  refine wpQuiet_nil ?_
  intro w' hw'
  obtain ⟨p, rfl⟩ := hw'
  have R := Lib.hid (BW.out.trans ((ext_below W p).mono BW.out.size))
  go_wp2_with fail
  go_ret2
  exact ⟨rfl, R.out⟩
theorem State_any (b : Nat) (s : RS) (O : Nat → Prop) (w : World) (h : Rot w b s O) :
    Calls Tryz.prog 267 #[.pointer (some ⟨b, 0, none⟩)] w fun e w' => e = .returned (.tuple #[.int .u32 (wd s.p), .int .u32 s.n]) ∧ Below w.heap.size w w' := by
  refine state_q _ s (me b) w ((rotor_yes b w h.1.c2).mono ?_)
  rintro e w' ⟨rfl, rfl⟩
  exact ⟨⟨b, rfl, h.1⟩, Below.refl _ _⟩
theorem State_non (v : Value) (w : World) (h : Non w v) :
    Calls Tryz.prog 267 #[v] w fun e w' => e = .returned (.tuple #[.int .u32 0, .int .u32 0]) ∧ Below w.heap.size w w' := by
  refine state_q _ zeroR (.pointer none) w ((rotor_non v w h).mono ?_)
  rintro e w' ⟨⟨b, rfl, h1, _⟩, hb⟩
  exact ⟨⟨b, rfl, h1⟩, hb⟩
theorem Copy_any (b : Nat) (s : RS) (O : Nat → Prop) (w : World) (h : Rot w b s O) :
    Calls Tryz.prog 266 #[.pointer (some ⟨b, 0, none⟩)] w fun e w' => (∃ c O', e = .returned (.pointer (some ⟨c, 0, none⟩)) ∧ Rot w' c s O' ∧ ∀ j, O' j → w.heap.size ≤ j) ∧ Below w.heap.size w w' := by
  obtain ⟨⟨x, y, h⟩, _⟩ := h
  have I := Lib.hid (is_yes b w h.c2)
  have L := Lib.hid (fun W => laid_any x y s (.pointer none) W h.pt h.n)
  have hS0 : RX w.drew b x y s (me b) := h.keep (Below.refl _ _).drew
  have l0 : ∀ w', RX w' b x y s (me b) → w'.cell? ⟨b, 0, none⟩ = some (.complex .f64 x y) := fun w' h => h.c0
  have l1 : ∀ w', RX w' b x y s (me b) → w'.cell? ⟨b, 1, none⟩ = some (.int .u32 s.n) := fun w' h => h.c1
  clear h
  go_enter Tryz.func266, Tryz.ntmps266
  go_wp2_with fail
  refine I.out.mono ?_
  rintro e w1 ⟨rfl, rfl⟩
  go_wp2_with fail
  go_region_held3 (fun w' => RX w' b x y s (me b))
    (first | assumption)
    (first | (go_at_call 67; refine (L.out _).mono ?_; rintro e w1 ⟨⟨c, rfl, h1, h2⟩, hb⟩; have hS1 : RX w1 b x y s (me b) := RX.keep hS0 hb; have R := Lib.hid (And.intro h1 (And.intro h2 (drew_to hb))); clear h1 h2 hb))
  all_goals
    go_wp2_with fail
    go_ret
    exact ⟨⟨c, fun j => j = c, rfl, ⟨R.out.1, fun j => Iff.rfl⟩, fun j e => by have e : j = c := e; rw [e]; exact R.out.2.1⟩, R.out.2.2⟩
theorem Copy_non (v : Value) (w : World) (h : Non w v) :
    Calls Tryz.prog 266 #[v] w fun e w' => e = .returned (.pointer none) ∧ Below w.heap.size w w' := by
  have I := Lib.hid (is_non v w h)
  clear h
  go_enter Tryz.func266, Tryz.ntmps266
  go_wp2_with fail
  refine I.out.mono ?_
  rintro e w1 ⟨rfl, rfl⟩
  go_wp2_with fail
  go_ret
  exact ⟨rfl, Below.refl _ _⟩
end Go.Proofs.YtknhgfofmkpnfaaGreat.Rotor
