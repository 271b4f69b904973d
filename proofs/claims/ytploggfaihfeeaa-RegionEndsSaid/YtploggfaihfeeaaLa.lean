/- Plain mathematics of a word's lanes: places, masks, what stands there, what is put there. -/
import Derived.Test.YtploggfaihfeeaaWs
import Derived.Laws.BitsAllLaws
namespace Go.Proofs.Ytploggfaihfeeaa.Lane
open Go.RowKit

/-- Is a an aligned place of the size n? -/
def alB (a n : Int) : Bool := Word.sizeB n && decide (a % n = 0)
/-- The mask of k lanes from lane s on; wide; what stands there; what is put there. -/
def mN (s k : Nat) : Int := ((2 ^ k - 1) * 2 ^ s : Nat)
def wN (s k : Nat) : Int := ((256 ^ k - 1) * 256 ^ s : Nat)
def tN (v : Int) (s k : Nat) : Int := v / (256 ^ s : Nat) % (256 ^ k : Nat)
def pN (v : Int) (s k : Nat) (d : Int) : Int := v / (256 ^ (s + k) : Nat) * (256 ^ (s + k) : Nat) + d % (256 ^ k : Nat) * (256 ^ s : Nat) + v % (256 ^ s : Nat)
def maskV (a n : Int) : Int := if alB a n then mN (a % 4).toNat n.toNat else 0
def takeV (v a n : Int) : Int := if alB a n then tN v (a % 4).toNat n.toNat else 0
def putV (v a n d : Int) : Int := if alB a n then pN v (a % 4).toNat n.toNat d else 0
/-- All bits of lanes: the first k lanes of a mask, all four. -/
def wS (m : Int) : Nat → Int
  | 0 => 0
  | k + 1 => wS m k + m / (2 ^ k : Nat) % 2 * (255 * 256 ^ k : Nat)
def wideV (m : Int) : Int := wS m 4

/-- The seven places. -/
def Place (s k : Nat) : Prop := (k = 1 ∧ (s = 0 ∨ s = 1 ∨ s = 2 ∨ s = 3)) ∨ (k = 2 ∧ (s = 0 ∨ s = 2)) ∨ (k = 4 ∧ s = 0)
theorem place_of {a n : Int} (h : alB a n = true) : ∃ s k : Nat, Place s k ∧ a % 4 = s ∧ n = k ∧ (a % 4).toNat = s ∧ n.toNat = k := by
  unfold alB at h
  rw [Bool.and_eq_true, decide_eq_true_eq] at h
  obtain ⟨h1, h2⟩ := h
  refine ⟨(a % 4).toNat, n.toNat, ?_, ?_⟩
  · unfold Place
    rcases Word.sizeB_yes h1 with rfl | rfl | rfl <;> omega
  · rcases Word.sizeB_yes h1 with rfl | rfl | rfl <;> omega
theorem al_place {a n : Int} {s k : Nat} (hp : Place s k) (hs : a % 4 = s) (hk : n = k) : alB a n = true := by
  unfold alB
  rw [Bool.and_eq_true, decide_eq_true_eq]
  subst hk
  rcases hp with ⟨rfl, _⟩ | ⟨rfl, _⟩ | ⟨rfl, _⟩
  · exact ⟨rfl, by omega⟩
  · exact ⟨rfl, by omega⟩
  · exact ⟨rfl, by omega⟩
theorem mask_at {a n : Int} {s k : Nat} (hp : Place s k) (hs : a % 4 = s) (hk : n = k) : maskV a n = mN s k := by
  unfold maskV; rw [if_pos (al_place hp hs hk), hs, hk]; rfl
theorem take_at {v a n : Int} {s k : Nat} (hp : Place s k) (hs : a % 4 = s) (hk : n = k) : takeV v a n = tN v s k := by
  unfold takeV; rw [if_pos (al_place hp hs hk), hs, hk]; rfl
theorem put_at {v a n d : Int} {s k : Nat} (hp : Place s k) (hs : a % 4 = s) (hk : n = k) : putV v a n d = pN v s k d := by
  unfold putV; rw [if_pos (al_place hp hs hk), hs, hk]; rfl
theorem mask_no {a n : Int} (h : alB a n = false) : maskV a n = 0 := by unfold maskV; rw [h]; rfl
theorem take_no {v a n : Int} (h : alB a n = false) : takeV v a n = 0 := by unfold takeV; rw [h]; rfl
theorem put_no {v a n d : Int} (h : alB a n = false) : putV v a n d = 0 := by unfold putV; rw [h]; rfl

theorem Place.all {P : Nat → Nat → Prop} (h01 : P 0 1) (h11 : P 1 1) (h21 : P 2 1) (h31 : P 3 1) (h02 : P 0 2) (h22 : P 2 2) (h04 : P 0 4) {s k : Nat} (hp : Place s k) : P s k := by
  rcases hp with ⟨rfl, rfl | rfl | rfl | rfl⟩ | ⟨rfl, rfl | rfl⟩ | ⟨rfl, rfl⟩ <;> assumption
theorem Place.allI {P : Int → Int → Prop} (h01 : P 0 1) (h11 : P 1 1) (h21 : P 2 1) (h31 : P 3 1) (h02 : P 0 2) (h22 : P 2 2) (h04 : P 0 4) {s k : Nat} (hp : Place s k) : P s k := by
  rcases hp with ⟨rfl, rfl | rfl | rfl | rfl⟩ | ⟨rfl, rfl | rfl⟩ | ⟨rfl, rfl⟩ <;> assumption
theorem wide_mask {s k : Nat} (hp : Place s k) : wideV (mN s k) = wN s k := by
  refine Place.all (P := fun s k => wideV (mN s k) = wN s k) ?_ ?_ ?_ ?_ ?_ ?_ ?_ hp <;> decide
theorem mN_bd {s k : Nat} (hp : Place s k) : 1 ≤ mN s k ∧ mN s k ≤ 15 := by
  refine Place.all (P := fun s k => 1 ≤ mN s k ∧ mN s k ≤ 15) ?_ ?_ ?_ ?_ ?_ ?_ ?_ hp <;> decide
theorem wN_bd {s k : Nat} (hp : Place s k) : 0 ≤ wN s k ∧ wN s k < 4294967296 := by
  refine Place.all (P := fun s k => 0 ≤ wN s k ∧ wN s k < 4294967296) ?_ ?_ ?_ ?_ ?_ ?_ ?_ hp <;> decide
theorem maskV_bd (a n : Int) : 0 ≤ maskV a n ∧ maskV a n ≤ 15 := by
  by_cases h : alB a n = true
  · obtain ⟨s, k, hp, hs, hk, _⟩ := place_of h
    rw [mask_at hp hs hk]
    have := mN_bd hp
    omega
  · rw [mask_no (by simpa using h)]; omega

theorem and_one {x : Int} (h0 : 0 ≤ x) (h1 : x < 4294967296) : bits .and .u32 x 1 = x % 2 := by
  rw [u32_and x 1 h0 h1 (by omega) (by omega)]
  obtain ⟨n, rfl⟩ := Int.eq_ofNat_of_zero_le h0
  have := nat_mask1 n
  simp only [Int.toNat_natCast, Int.toNat_one, this]; omega
theorem lane_bit {m : Int} {k : Nat} (h0 : 0 ≤ m) (h1 : m < 4294967296) : bits .and .u32 (m / 2 ^ k) 1 = m / (2 ^ k : Nat) % 2 := by
  have hp : (0 : Int) < 2 ^ k := Int.pow_pos (by decide)
  have e : ((2 ^ k : Nat) : Int) = 2 ^ k := by simp
  have a : 0 ≤ m / 2 ^ k := Int.ediv_nonneg h0 (by omega)
  have b : m / 2 ^ k ≤ m := Int.ediv_le_self _ h0
  rw [and_one a (by omega), e]
theorem wS_yes {m : Int} {k : Nat} (h0 : 0 ≤ m) (h1 : m < 4294967296) (h : (bits .and .u32 (m / 2 ^ k) 1 == 1) = true) (hk : k < 4) (b0 : 0 ≤ wS m k) (b1 : wS m k < (256 ^ k : Nat)) :
    bits .or .u32 (wS m k) (255 * 256 ^ k) = wS m (k + 1) ∧ 0 ≤ wS m (k + 1) ∧ wS m (k + 1) < (256 ^ (k + 1) : Nat) := by
  rw [lane_bit h0 h1, beq_iff_eq] at h
  have e : wS m (k + 1) = wS m k + 255 * (256 ^ k : Nat) := by rw [wS, h]; simp
  rw [e]
  have h3 : k = 0 ∨ k = 1 ∨ k = 2 ∨ k = 3 := by omega
  rcases h3 with rfl | rfl | rfl | rfl
  · refine ⟨?_, by omega, by omega⟩
    have e2 : wS m 0 = 0 := rfl
    rw [e2]; exact Word.or_0 255 (by omega) (by omega)
  · exact ⟨Word.or_8 _ 255 b0 (by omega) (by omega) (by omega), by omega, by omega⟩
  · exact ⟨Word.or_16 _ 255 b0 (by omega) (by omega) (by omega), by omega, by omega⟩
  · exact ⟨Word.or_24 _ 255 b0 (by omega) (by omega) (by omega), by omega, by omega⟩
theorem wS_no {m : Int} {k : Nat} (h0 : 0 ≤ m) (h1 : m < 4294967296) (h : ¬ (bits .and .u32 (m / 2 ^ k) 1 == 1) = true) (b0 : 0 ≤ wS m k) (b1 : wS m k < (256 ^ k : Nat)) :
    wS m k = wS m (k + 1) ∧ 0 ≤ wS m (k + 1) ∧ wS m (k + 1) < (256 ^ (k + 1) : Nat) := by
  rw [lane_bit h0 h1, beq_iff_eq] at h
  have h2 : m / (2 ^ k : Nat) % 2 = 0 := by omega
  have e : wS m (k + 1) = wS m k := by rw [wS, h2]; simp
  rw [e]
  refine ⟨rfl, b0, ?_⟩
  rw [Nat.pow_succ]; omega

/-! ### Bits -/
/-- A run of k ones from s on, and what of x stands there. -/
theorem and_run (x s k : Nat) : x &&& ((2 ^ k - 1) * 2 ^ s) = x / 2 ^ s % 2 ^ k * 2 ^ s := by
  apply Nat.eq_of_testBit_eq
  intro i
  rw [Nat.testBit_and, Nat.testBit_mul_two_pow, Nat.testBit_mul_two_pow, Nat.testBit_two_pow_sub_one, Nat.testBit_mod_two_pow, Nat.testBit_div_two_pow]
  by_cases h : s ≤ i
  · have e : i - s + s = i := by omega
    simp only [h, decide_true, Bool.true_and, e]
    rw [Bool.and_comm]
  · simp [h]
theorem andnot_run (x s k n : Nat) (hn : s + k ≤ n) (hx : x < 2 ^ n) : x &&& (2 ^ n - 1 - (2 ^ k - 1) * 2 ^ s) = x / 2 ^ (s + k) * 2 ^ (s + k) + x % 2 ^ s := by
  have hpos : 0 < 2 ^ s := Nat.pow_pos (by decide)
  have hk : 0 < 2 ^ k := Nat.pow_pos (by decide)
  have hsk : 2 ^ s * 2 ^ k = 2 ^ (s + k) := (Nat.pow_add 2 s k).symm
  have hle : 2 ^ (s + k) ≤ 2 ^ n := Nat.pow_le_pow_right (by decide) hn
  have hlt : (2 ^ k - 1) * 2 ^ s < 2 ^ n := by
    have : (2 ^ k - 1) * 2 ^ s < 2 ^ k * 2 ^ s := Nat.mul_lt_mul_of_pos_right (by omega) hpos
    rw [Nat.mul_comm (2 ^ k)] at this
    omega
  have ej : x / 2 ^ (s + k) * 2 ^ (s + k) + x % 2 ^ s = (x / 2 ^ (s + k) * 2 ^ (s + k)) ||| (x % 2 ^ s) := by
    have : x % 2 ^ s < 2 ^ (s + k) := Nat.lt_of_lt_of_le (Nat.mod_lt _ hpos) (Nat.pow_le_pow_right (by decide) (by omega))
    rw [nat_join (s + k) _ _ (Nat.mul_mod_left _ _) this]
  rw [ej]
  apply Nat.eq_of_testBit_eq
  intro i
  rw [Nat.testBit_and, show 2 ^ n - 1 - (2 ^ k - 1) * 2 ^ s = 2 ^ n - ((2 ^ k - 1) * 2 ^ s + 1) by omega, Nat.testBit_two_pow_sub_succ hlt, Nat.testBit_or, Nat.testBit_mul_two_pow, Nat.testBit_mul_two_pow, Nat.testBit_two_pow_sub_one, Nat.testBit_mod_two_pow, Nat.testBit_div_two_pow]
  by_cases h1 : i < s
  · have a1 : ¬ s ≤ i := by omega
    have a2 : ¬ s + k ≤ i := by omega
    have a3 : i < n := by omega
    simp [h1, a1, a2, a3]
  · by_cases h2 : s + k ≤ i
    · have a1 : s ≤ i := by omega
      have a2 : ¬ i - s < k := by omega
      have a3 : i - (s + k) + (s + k) = i := by omega
      simp only [h1, h2, a1, a2, a3, decide_true, decide_false, Bool.true_and, Bool.and_false, Bool.not_false, Bool.and_true, Bool.false_and, Bool.or_false]
      by_cases h3 : i < n
      · simp [h3]
      · have : x.testBit i = false := Nat.testBit_lt_two_pow (Nat.lt_of_lt_of_le hx (Nat.pow_le_pow_right (by decide) (by omega)))
        simp [this]
    · have a1 : s ≤ i := by omega
      have a2 : i - s < k := by omega
      simp [h1, h2, a1, a2]
theorem or_three (x s k m : Nat) (hm : m < 2 ^ k) : (x / 2 ^ (s + k) * 2 ^ (s + k) + x % 2 ^ s) ||| (m * 2 ^ s) = x / 2 ^ (s + k) * 2 ^ (s + k) + m * 2 ^ s + x % 2 ^ s := by
  have hpos : 0 < 2 ^ s := Nat.pow_pos (by decide)
  have hsk : 2 ^ s * 2 ^ k = 2 ^ (s + k) := (Nat.pow_add 2 s k).symm
  have hl : x % 2 ^ s < 2 ^ s := Nat.mod_lt _ hpos
  have h1 : x % 2 ^ s < 2 ^ (s + k) := Nat.lt_of_lt_of_le hl (Nat.pow_le_pow_right (by decide) (by omega))
  have h2 : m * 2 ^ s + x % 2 ^ s < 2 ^ (s + k) := by
    have : m * 2 ^ s + 2 ^ s ≤ 2 ^ k * 2 ^ s := by rw [← Nat.succ_mul]; exact Nat.mul_le_mul_right _ hm
    rw [Nat.mul_comm (2 ^ k)] at this
    omega
  rw [← nat_join (s + k) _ _ (Nat.mul_mod_left _ _) h1, Nat.or_assoc, Nat.or_comm (x % 2 ^ s), nat_join s _ _ (Nat.mul_mod_left _ _) hl, nat_join (s + k) _ _ (Nat.mul_mod_left _ _) h2]
  omega
theorem p256 (s : Nat) : 256 ^ s = 2 ^ (8 * s) := by rw [Nat.pow_mul]
theorem wN_two (s k : Nat) : wN s k = (((2 ^ (8 * k) - 1) * 2 ^ (8 * s) : Nat) : Int) := by unfold wN; rw [p256, p256]
theorem place_le {s k : Nat} (hp : Place s k) : 8 * s + 8 * k ≤ 32 := by unfold Place at hp; omega
theorem w_lt {s k : Nat} (hp : Place s k) : (2 ^ (8 * k) - 1) * 2 ^ (8 * s) < 4294967296 := by
  have := (wN_bd hp).2
  rw [wN_two] at this
  omega
theorem taken_bits {s k : Nat} (hp : Place s k) {v : Int} (h0 : 0 ≤ v) (h1 : v < 4294967296) : bits .and .u32 v (wN s k) / ((256 ^ s : Nat) : Int) = tN v s k := by
  obtain ⟨x, rfl⟩ := Int.eq_ofNat_of_zero_le h0
  rw [wN_two, u32_and_nat x _ (by omega) (w_lt hp), and_run, tN, p256, p256, ← Int.natCast_ediv, Nat.mul_div_cancel _ (Nat.pow_pos (by decide)), ← Int.natCast_ediv, ← Int.natCast_emod]
theorem shl_mod (x a b : Nat) (h : a + b ≤ 32) : x * 2 ^ a % 4294967296 / 2 ^ a % 2 ^ b = x % 2 ^ b := by
  obtain ⟨c, hc⟩ : ∃ c, 32 = b + c + a := ⟨32 - b - a, by omega⟩
  have e : 4294967296 = 2 ^ (b + c) * 2 ^ a := by rw [← Nat.pow_add, ← hc]
  rw [e, Nat.mul_mod_mul_right, Nat.mul_div_cancel _ (Nat.pow_pos (by decide)), Nat.pow_add, Nat.mod_mul_right_mod]
theorem put_bits {s k : Nat} (hp : Place s k) {v d : Int} (h0 : 0 ≤ v) (h1 : v < 4294967296) (g0 : 0 ≤ d) :
    bits .or .u32 (bits .andNot .u32 v (wN s k)) (bits .and .u32 (d * ((256 ^ s : Nat) : Int) % 4294967296) (wN s k)) = pN v s k d := by
  obtain ⟨x, rfl⟩ := Int.eq_ofNat_of_zero_le h0
  obtain ⟨y, rfl⟩ := Int.eq_ofNat_of_zero_le g0
  have hx : x < 4294967296 := by omega
  have hle := place_le hp
  have hw := w_lt hp
  have e1 : (y : Int) * ((256 ^ s : Nat) : Int) % 4294967296 = ((y * 2 ^ (8 * s) % 4294967296 : Nat) : Int) := by rw [p256, ← Int.natCast_mul]; omega
  rw [wN_two, e1, u32_andNot_nat x _ hx hw, u32_and_nat _ _ (Nat.mod_lt _ (by decide)) hw, and_run, shl_mod _ _ _ hle]
  have e2 := andnot_run x (8 * s) (8 * k) 32 hle hx
  rw [show (2 : Nat) ^ 32 - 1 = 4294967295 from rfl] at e2
  have hand : x &&& (4294967295 - (2 ^ (8 * k) - 1) * 2 ^ (8 * s)) < 2 ^ 32 := Nat.and_lt_two_pow _ (by omega)
  have hm : y % 2 ^ (8 * k) < 2 ^ (8 * k) := Nat.mod_lt _ (Nat.pow_pos (by decide))
  have hmid : y % 2 ^ (8 * k) * 2 ^ (8 * s) < 4294967296 := by
    have : y % 2 ^ (8 * k) * 2 ^ (8 * s) ≤ (2 ^ (8 * k) - 1) * 2 ^ (8 * s) := Nat.mul_le_mul_right _ (by omega)
    omega
  rw [u32_or_nat _ _ hand hmid, e2, or_three _ _ _ _ hm, pN, p256, p256, p256, Nat.mul_add]
  simp only [Int.natCast_add, Int.natCast_mul, Int.natCast_ediv, Int.natCast_emod]
theorem pN_bd {s k : Nat} (hp : Place s k) {v d : Int} (h0 : 0 ≤ v) (h1 : v < 4294967296) : 0 ≤ pN v s k d ∧ pN v s k d < 4294967296 := by
  revert v
  refine Place.all (P := fun s k => ∀ {v : Int}, 0 ≤ v → v < 4294967296 → 0 ≤ pN v s k d ∧ pN v s k d < 4294967296) ?_ ?_ ?_ ?_ ?_ ?_ ?_ hp <;> (intro v h0 h1; simp only [pN, Nat.reduceAdd, Nat.reducePow, Int.cast_ofNat_Int]; omega)
theorem tN_bd {s k : Nat} (hp : Place s k) {v : Int} (h0 : 0 ≤ v) (h1 : v < 4294967296) : 0 ≤ tN v s k ∧ tN v s k < 4294967296 := by
  revert v
  refine Place.all (P := fun s k => ∀ {v : Int}, 0 ≤ v → v < 4294967296 → 0 ≤ tN v s k ∧ tN v s k < 4294967296) ?_ ?_ ?_ ?_ ?_ ?_ ?_ hp <;> (intro v h0 h1; simp only [tN, Nat.reducePow, Int.cast_ofNat_Int]; omega)
/-- What stays: all bits but those of the lanes. -/
theorem stays_bits {s k : Nat} (hp : Place s k) {v d : Int} (h0 : 0 ≤ v) (h1 : v < 4294967296) (g0 : 0 ≤ d) :
    bits .andNot .u32 (bits .xor .u32 (pN v s k d) v) (wN s k) = 0 := by
  rw [← put_bits hp h0 h1 g0]
  obtain ⟨x, rfl⟩ := Int.eq_ofNat_of_zero_le h0
  obtain ⟨y, rfl⟩ := Int.eq_ofNat_of_zero_le g0
  have hx : x < 4294967296 := by omega
  have hw := w_lt hp
  have e1 : (y : Int) * ((256 ^ s : Nat) : Int) % 4294967296 = ((y * 2 ^ (8 * s) % 4294967296 : Nat) : Int) := by rw [p256, ← Int.natCast_mul]; omega
  have hz : y * 2 ^ (8 * s) % 4294967296 < 4294967296 := Nat.mod_lt _ (by decide)
  rw [wN_two, e1]
  generalize y * 2 ^ (8 * s) % 4294967296 = z at *
  generalize (2 ^ (8 * k) - 1) * 2 ^ (8 * s) = W at *
  have hA : x &&& (4294967295 - W) < 2 ^ 32 := Nat.and_lt_two_pow _ (by omega)
  have hB : z &&& W < 2 ^ 32 := Nat.and_lt_two_pow _ (by omega)
  have hC : (x &&& (4294967295 - W)) ||| (z &&& W) < 2 ^ 32 := Nat.or_lt_two_pow hA hB
  have hD : ((x &&& (4294967295 - W)) ||| (z &&& W)) ^^^ x < 2 ^ 32 := Nat.xor_lt_two_pow hC (by omega)
  rw [u32_andNot_nat x _ hx hw, u32_and_nat _ _ hz hw, u32_or_nat _ _ hA hB, u32_xor_nat _ _ hC hx, u32_andNot_nat _ _ hD hw]
  have e : (((x &&& (4294967295 - W)) ||| (z &&& W)) ^^^ x) &&& (4294967295 - W) = 0 := by
    apply Nat.eq_of_testBit_eq
    intro i
    rw [show 4294967295 - W = 2 ^ 32 - (W + 1) by omega]
    simp only [Nat.testBit_and, Nat.testBit_or, Nat.testBit_xor, Nat.testBit_two_pow_sub_succ (show W < 2 ^ 32 from hw), Nat.zero_testBit]
    cases decide (i < 32) <;> cases W.testBit i <;> cases x.testBit i <;> cases z.testBit i <;> rfl
  rw [e]; rfl
end Go.Proofs.Ytploggfaihfeeaa.Lane
