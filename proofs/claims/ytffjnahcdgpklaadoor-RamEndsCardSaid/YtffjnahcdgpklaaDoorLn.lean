/- Put together: La, Lb, Lc, Ld. -/
import Derived.Test.YtffjnahcdgpklaaDoorBa
import Derived.Laws.BitsAllLaws
import Derived.WalkKit
import Derived.WalkLawsBesides
import Derived.Handy
import Derived.Outline
import Derived.Below
import Derived.Lib.Hide
/- Plain mathematics of a word's lanes: places, masks, what stands there, what is put there. -/
namespace Go.Proofs.YtffjnahcdgpklaaDoor.Lane
open Go.RowKit

/-- Is a an aligned place of the size n? -/
def alB (a n : Int) : Bool := Word.sizeB n && decide (a % n = 0)
/-- The mask of k lanes from lane s on; wide; what stands there; what is put there. -/
def mN (s k : Nat) : Int := ((2 ^ k - 1) * 2 ^ s : Nat)
def wN (s k : Nat) : Int := ((256 ^ k - 1) * 256 ^ s : Nat)
def tN (v : Int) (s k : Nat) : Int := v / (256 ^ s : Nat) % (256 ^ k : Nat)
def pN (v : Int) (s k : Nat) (d : Int) : Int := v / (256 ^ (s + k) : Nat) * (256 ^ (s + k) : Nat) + d % (256 ^ k : Nat) * (256 ^ s : Nat) + v % (256 ^ s : Nat)
def maskV (a n : Int) : Int := if alB a n then mN (a % 4).toNat n.toNat else 0
def takeV (v a n : Int) : Int := if alB a n then tN v (a % 4).toNat n.toNat else 0
def putV (v a n d : Int) : Int := if alB a n then pN v (a % 4).toNat n.toNat d else 0
/-- All bits of lanes: the first k lanes of a mask, all four. -/
def wS (m : Int) : Nat → Int
  | 0 => 0
  | k + 1 => wS m k + m / (2 ^ k : Nat) % 2 * (255 * 256 ^ k : Nat)
def wideV (m : Int) : Int := wS m 4

/-- The seven places. -/
def Place (s k : Nat) : Prop := (k = 1 ∧ (s = 0 ∨ s = 1 ∨ s = 2 ∨ s = 3)) ∨ (k = 2 ∧ (s = 0 ∨ s = 2)) ∨ (k = 4 ∧ s = 0)
theorem place_of {a n : Int} (h : alB a n = true) : ∃ s k : Nat, Place s k ∧ a % 4 = s ∧ n = k ∧ (a % 4).toNat = s ∧ n.toNat = k := by
  unfold alB at h
  rw [Bool.and_eq_true, decide_eq_true_eq] at h
  obtain ⟨h1, h2⟩ := h
  refine ⟨(a % 4).toNat, n.toNat, ?_, ?_⟩
  · unfold Place
    rcases Word.sizeB_yes h1 with rfl | rfl | rfl <;> omega
  · rcases Word.sizeB_yes h1 with rfl | rfl | rfl <;> omega
theorem al_place {a n : Int} {s k : Nat} (hp : Place s k) (hs : a % 4 = s) (hk : n = k) : alB a n = true := by
  unfold alB
  rw [Bool.and_eq_true, decide_eq_true_eq]
  subst hk
  rcases hp with ⟨rfl, _⟩ | ⟨rfl, _⟩ | ⟨rfl, _⟩
  · exact ⟨rfl, by omega⟩
  · exact ⟨rfl, by omega⟩
  · exact ⟨rfl, by omega⟩
theorem mask_at {a n : Int} {s k : Nat} (hp : Place s k) (hs : a % 4 = s) (hk : n = k) : maskV a n = mN s k := by
  unfold maskV; rw [if_pos (al_place hp hs hk), hs, hk]; rfl
theorem take_at {v a n : Int} {s k : Nat} (hp : Place s k) (hs : a % 4 = s) (hk : n = k) : takeV v a n = tN v s k := by
  unfold takeV; rw [if_pos (al_place hp hs hk), hs, hk]; rfl
theorem put_at {v a n d : Int} {s k : Nat} (hp : Place s k) (hs : a % 4 = s) (hk : n = k) : putV v a n d = pN v s k d := by
  unfold putV; rw [if_pos (al_place hp hs hk), hs, hk]; rfl
theorem mask_no {a n : Int} (h : alB a n = false) : maskV a n = 0 := by unfold maskV; rw [h]; rfl
theorem take_no {v a n : Int} (h : alB a n = false) : takeV v a n = 0 := by unfold takeV; rw [h]; rfl
theorem put_no {v a n d : Int} (h : alB a n = false) : putV v a n d = 0 := by unfold putV; rw [h]; rfl

theorem Place.all {P : Nat → Nat → Prop} (h01 : P 0 1) (h11 : P 1 1) (h21 : P 2 1) (h31 : P 3 1) (h02 : P 0 2) (h22 : P 2 2) (h04 : P 0 4) {s k : Nat} (hp : Place s k) : P s k := by
  rcases hp with ⟨rfl, rfl | rfl | rfl | rfl⟩ | ⟨rfl, rfl | rfl⟩ | ⟨rfl, rfl⟩ <;> assumption
theorem Place.allI {P : Int → Int → Prop} (h01 : P 0 1) (h11 : P 1 1) (h21 : P 2 1) (h31 : P 3 1) (h02 : P 0 2) (h22 : P 2 2) (h04 : P 0 4) {s k : Nat} (hp : Place s k) : P s k := by
  rcases hp with ⟨rfl, rfl | rfl | rfl | rfl⟩ | ⟨rfl, rfl | rfl⟩ | ⟨rfl, rfl⟩ <;> assumption
theorem wide_mask {s k : Nat} (hp : Place s k) : wideV (mN s k) = wN s k := by
  refine Place.all (P := fun s k => wideV (mN s k) = wN s k) ?_ ?_ ?_ ?_ ?_ ?_ ?_ hp <;> decide
theorem mN_bd {s k : Nat} (hp : Place s k) : 1 ≤ mN s k ∧ mN s k ≤ 15 := by
  refine Place.all (P := fun s k => 1 ≤ mN s k ∧ mN s k ≤ 15) ?_ ?_ ?_ ?_ ?_ ?_ ?_ hp <;> decide
theorem wN_bd {s k : Nat} (hp : Place s k) : 0 ≤ wN s k ∧ wN s k < 4294967296 := by
  refine Place.all (P := fun s k => 0 ≤ wN s k ∧ wN s k < 4294967296) ?_ ?_ ?_ ?_ ?_ ?_ ?_ hp <;> decide
theorem maskV_bd (a n : Int) : 0 ≤ maskV a n ∧ maskV a n ≤ 15 := by
  by_cases h : alB a n = true
  · obtain ⟨s, k, hp, hs, hk, _⟩ := place_of h
    rw [mask_at hp hs hk]
    have := mN_bd hp
    omega
  · rw [mask_no (by simpa using h)]; omega

theorem and_one {x : Int} (h0 : 0 ≤ x) (h1 : x < 4294967296) : bits .and .u32 x 1 = x % 2 := by
  rw [u32_and x 1 h0 h1 (by omega) (by omega)]
  obtain ⟨n, rfl⟩ := Int.eq_ofNat_of_zero_le h0
  have := nat_mask1 n
  simp only [Int.toNat_natCast, Int.toNat_one, this]; omega
theorem lane_bit {m : Int} {k : Nat} (h0 : 0 ≤ m) (h1 : m < 4294967296) : bits .and .u32 (m / 2 ^ k) 1 = m / (2 ^ k : Nat) % 2 := by
  have hp : (0 : Int) < 2 ^ k := Int.pow_pos (by decide)
  have e : ((2 ^ k : Nat) : Int) = 2 ^ k := by simp
  have a : 0 ≤ m / 2 ^ k := Int.ediv_nonneg h0 (by omega)
  have b : m / 2 ^ k ≤ m := Int.ediv_le_self _ h0
  rw [and_one a (by omega), e]
theorem wS_yes {m : Int} {k : Nat} (h0 : 0 ≤ m) (h1 : m < 4294967296) (h : (bits .and .u32 (m / 2 ^ k) 1 == 1) = true) (hk : k < 4) (b0 : 0 ≤ wS m k) (b1 : wS m k < (256 ^ k : Nat)) :
    bits .or .u32 (wS m k) (255 * 256 ^ k) = wS m (k + 1) ∧ 0 ≤ wS m (k + 1) ∧ wS m (k + 1) < (256 ^ (k + 1) : Nat) := by
  rw [lane_bit h0 h1, beq_iff_eq] at h
  have e : wS m (k + 1) = wS m k + 255 * (256 ^ k : Nat) := by rw [wS, h]; simp
  rw [e]
  have h3 : k = 0 ∨ k = 1 ∨ k = 2 ∨ k = 3 := by omega
  rcases h3 with rfl | rfl | rfl | rfl
  · refine ⟨?_, by omega, by omega⟩
    have e2 : wS m 0 = 0 := rfl
    rw [e2]; exact Word.or_0 255 (by omega) (by omega)
  · exact ⟨Word.or_8 _ 255 b0 (by omega) (by omega) (by omega), by omega, by omega⟩
  · exact ⟨Word.or_16 _ 255 b0 (by omega) (by omega) (by omega), by omega, by omega⟩
  · exact ⟨Word.or_24 _ 255 b0 (by omega) (by omega) (by omega), by omega, by omega⟩
theorem wS_no {m : Int} {k : Nat} (h0 : 0 ≤ m) (h1 : m < 4294967296) (h : ¬ (bits .and .u32 (m / 2 ^ k) 1 == 1) = true) (b0 : 0 ≤ wS m k) (b1 : wS m k < (256 ^ k : Nat)) :
    wS m k = wS m (k + 1) ∧ 0 ≤ wS m (k + 1) ∧ wS m (k + 1) < (256 ^ (k + 1) : Nat) := by
  rw [lane_bit h0 h1, beq_iff_eq] at h
  have h2 : m / (2 ^ k : Nat) % 2 = 0 := by omega
  have e : wS m (k + 1) = wS m k := by rw [wS, h2]; simp
  rw [e]
  refine ⟨rfl, b0, ?_⟩
  rw [Nat.pow_succ]; omega

/-! ### Bits -/
/-- A run of k ones from s on, and what of x stands there. -/
theorem and_run (x s k : Nat) : x &&& ((2 ^ k - 1) * 2 ^ s) = x / 2 ^ s % 2 ^ k * 2 ^ s := by
  apply Nat.eq_of_testBit_eq
  intro i
  rw [Nat.testBit_and, Nat.testBit_mul_two_pow, Nat.testBit_mul_two_pow, Nat.testBit_two_pow_sub_one, Nat.testBit_mod_two_pow, Nat.testBit_div_two_pow]
  by_cases h : s ≤ i
  · have e : i - s + s = i := by omega
    simp only [h, decide_true, Bool.true_and, e]
    rw [Bool.and_comm]
  · simp [h]
theorem andnot_run (x s k n : Nat) (hn : s + k ≤ n) (hx : x < 2 ^ n) : x &&& (2 ^ n - 1 - (2 ^ k - 1) * 2 ^ s) = x / 2 ^ (s + k) * 2 ^ (s + k) + x % 2 ^ s := by
  have hpos : 0 < 2 ^ s := Nat.pow_pos (by decide)
  have hk : 0 < 2 ^ k := Nat.pow_pos (by decide)
  have hsk : 2 ^ s * 2 ^ k = 2 ^ (s + k) := (Nat.pow_add 2 s k).symm
  have hle : 2 ^ (s + k) ≤ 2 ^ n := Nat.pow_le_pow_right (by decide) hn
  have hlt : (2 ^ k - 1) * 2 ^ s < 2 ^ n := by
    have : (2 ^ k - 1) * 2 ^ s < 2 ^ k * 2 ^ s := Nat.mul_lt_mul_of_pos_right (by omega) hpos
    rw [Nat.mul_comm (2 ^ k)] at this
    omega
  have ej : x / 2 ^ (s + k) * 2 ^ (s + k) + x % 2 ^ s = (x / 2 ^ (s + k) * 2 ^ (s + k)) ||| (x % 2 ^ s) := by
    have : x % 2 ^ s < 2 ^ (s + k) := Nat.lt_of_lt_of_le (Nat.mod_lt _ hpos) (Nat.pow_le_pow_right (by decide) (by omega))
    rw [nat_join (s + k) _ _ (Nat.mul_mod_left _ _) this]
  rw [ej]
  apply Nat.eq_of_testBit_eq
  intro i
  rw [Nat.testBit_and, show 2 ^ n - 1 - (2 ^ k - 1) * 2 ^ s = 2 ^ n - ((2 ^ k - 1) * 2 ^ s + 1) by omega, Nat.testBit_two_pow_sub_succ hlt, Nat.testBit_or, Nat.testBit_mul_two_pow, Nat.testBit_mul_two_pow, Nat.testBit_two_pow_sub_one, Nat.testBit_mod_two_pow, Nat.testBit_div_two_pow]
  by_cases h1 : i < s
  · have a1 : ¬ s ≤ i := by omega
    have a2 : ¬ s + k ≤ i := by omega
    have a3 : i < n := by omega
    simp [h1, a1, a2, a3]
  · by_cases h2 : s + k ≤ i
    · have a1 : s ≤ i := by omega
      have a2 : ¬ i - s < k := by omega
      have a3 : i - (s + k) + (s + k) = i := by omega
      simp only [h1, h2, a1, a2, a3, decide_true, decide_false, Bool.true_and, Bool.and_false, Bool.not_false, Bool.and_true, Bool.false_and, Bool.or_false]
      by_cases h3 : i < n
      · simp [h3]
      · have : x.testBit i = false := Nat.testBit_lt_two_pow (Nat.lt_of_lt_of_le hx (Nat.pow_le_pow_right (by decide) (by omega)))
        simp [this]
    · have a1 : s ≤ i := by omega
      have a2 : i - s < k := by omega
      simp [h1, h2, a1, a2]
theorem or_three (x s k m : Nat) (hm : m < 2 ^ k) : (x / 2 ^ (s + k) * 2 ^ (s + k) + x % 2 ^ s) ||| (m * 2 ^ s) = x / 2 ^ (s + k) * 2 ^ (s + k) + m * 2 ^ s + x % 2 ^ s := by
  have hpos : 0 < 2 ^ s := Nat.pow_pos (by decide)
  have hsk : 2 ^ s * 2 ^ k = 2 ^ (s + k) := (Nat.pow_add 2 s k).symm
  have hl : x % 2 ^ s < 2 ^ s := Nat.mod_lt _ hpos
  have h1 : x % 2 ^ s < 2 ^ (s + k) := Nat.lt_of_lt_of_le hl (Nat.pow_le_pow_right (by decide) (by omega))
  have h2 : m * 2 ^ s + x % 2 ^ s < 2 ^ (s + k) := by
    have : m * 2 ^ s + 2 ^ s ≤ 2 ^ k * 2 ^ s := by rw [← Nat.succ_mul]; exact Nat.mul_le_mul_right _ hm
    rw [Nat.mul_comm (2 ^ k)] at this
    omega
  rw [← nat_join (s + k) _ _ (Nat.mul_mod_left _ _) h1, Nat.or_assoc, Nat.or_comm (x % 2 ^ s), nat_join s _ _ (Nat.mul_mod_left _ _) hl, nat_join (s + k) _ _ (Nat.mul_mod_left _ _) h2]
  omega
theorem p256 (s : Nat) : 256 ^ s = 2 ^ (8 * s) := by rw [Nat.pow_mul]
theorem wN_two (s k : Nat) : wN s k = (((2 ^ (8 * k) - 1) * 2 ^ (8 * s) : Nat) : Int) := by unfold wN; rw [p256, p256]
theorem place_le {s k : Nat} (hp : Place s k) : 8 * s + 8 * k ≤ 32 := by unfold Place at hp; omega
theorem w_lt {s k : Nat} (hp : Place s k) : (2 ^ (8 * k) - 1) * 2 ^ (8 * s) < 4294967296 := by
  have := (wN_bd hp).2
  rw [wN_two] at this
  omega
theorem taken_bits {s k : Nat} (hp : Place s k) {v : Int} (h0 : 0 ≤ v) (h1 : v < 4294967296) : bits .and .u32 v (wN s k) / ((256 ^ s : Nat) : Int) = tN v s k := by
  obtain ⟨x, rfl⟩ := Int.eq_ofNat_of_zero_le h0
  rw [wN_two, u32_and_nat x _ (by omega) (w_lt hp), and_run, tN, p256, p256, ← Int.natCast_ediv, Nat.mul_div_cancel _ (Nat.pow_pos (by decide)), ← Int.natCast_ediv, ← Int.natCast_emod]
theorem shl_mod (x a b : Nat) (h : a + b ≤ 32) : x * 2 ^ a % 4294967296 / 2 ^ a % 2 ^ b = x % 2 ^ b := by
  obtain ⟨c, hc⟩ : ∃ c, 32 = b + c + a := ⟨32 - b - a, by omega⟩
  have e : 4294967296 = 2 ^ (b + c) * 2 ^ a := by rw [← Nat.pow_add, ← hc]
  rw [e, Nat.mul_mod_mul_right, Nat.mul_div_cancel _ (Nat.pow_pos (by decide)), Nat.pow_add, Nat.mod_mul_right_mod]
theorem put_bits {s k : Nat} (hp : Place s k) {v d : Int} (h0 : 0 ≤ v) (h1 : v < 4294967296) (g0 : 0 ≤ d) :
    bits .or .u32 (bits .andNot .u32 v (wN s k)) (bits .and .u32 (d * ((256 ^ s : Nat) : Int) % 4294967296) (wN s k)) = pN v s k d := by
  obtain ⟨x, rfl⟩ := Int.eq_ofNat_of_zero_le h0
  obtain ⟨y, rfl⟩ := Int.eq_ofNat_of_zero_le g0
  have hx : x < 4294967296 := by omega
  have hle := place_le hp
  have hw := w_lt hp
  have e1 : (y : Int) * ((256 ^ s : Nat) : Int) % 4294967296 = ((y * 2 ^ (8 * s) % 4294967296 : Nat) : Int) := by rw [p256, ← Int.natCast_mul]; omega
  rw [wN_two, e1, u32_andNot_nat x _ hx hw, u32_and_nat _ _ (Nat.mod_lt _ (by decide)) hw, and_run, shl_mod _ _ _ hle]
  have e2 := andnot_run x (8 * s) (8 * k) 32 hle hx
  rw [show (2 : Nat) ^ 32 - 1 = 4294967295 from rfl] at e2
  have hand : x &&& (4294967295 - (2 ^ (8 * k) - 1) * 2 ^ (8 * s)) < 2 ^ 32 := Nat.and_lt_two_pow _ (by omega)
  have hm : y % 2 ^ (8 * k) < 2 ^ (8 * k) := Nat.mod_lt _ (Nat.pow_pos (by decide))
  have hmid : y % 2 ^ (8 * k) * 2 ^ (8 * s) < 4294967296 := by
    have : y % 2 ^ (8 * k) * 2 ^ (8 * s) ≤ (2 ^ (8 * k) - 1) * 2 ^ (8 * s) := Nat.mul_le_mul_right _ (by omega)
    omega
  rw [u32_or_nat _ _ hand hmid, e2, or_three _ _ _ _ hm, pN, p256, p256, p256, Nat.mul_add]
  simp only [Int.natCast_add, Int.natCast_mul, Int.natCast_ediv, Int.natCast_emod]
theorem pN_bd {s k : Nat} (hp : Place s k) {v d : Int} (h0 : 0 ≤ v) (h1 : v < 4294967296) : 0 ≤ pN v s k d ∧ pN v s k d < 4294967296 := by
  revert v
  refine Place.all (P := fun s k => ∀ {v : Int}, 0 ≤ v → v < 4294967296 → 0 ≤ pN v s k d ∧ pN v s k d < 4294967296) ?_ ?_ ?_ ?_ ?_ ?_ ?_ hp <;> (intro v h0 h1; simp only [pN, Nat.reduceAdd, Nat.reducePow, Int.cast_ofNat_Int]; omega)
theorem tN_bd {s k : Nat} (hp : Place s k) {v : Int} (h0 : 0 ≤ v) (h1 : v < 4294967296) : 0 ≤ tN v s k ∧ tN v s k < 4294967296 := by
  revert v
  refine Place.all (P := fun s k => ∀ {v : Int}, 0 ≤ v → v < 4294967296 → 0 ≤ tN v s k ∧ tN v s k < 4294967296) ?_ ?_ ?_ ?_ ?_ ?_ ?_ hp <;> (intro v h0 h1; simp only [tN, Nat.reducePow, Int.cast_ofNat_Int]; omega)
/-- What stays: all bits but those of the lanes. -/
theorem stays_bits {s k : Nat} (hp : Place s k) {v d : Int} (h0 : 0 ≤ v) (h1 : v < 4294967296) (g0 : 0 ≤ d) :
    bits .andNot .u32 (bits .xor .u32 (pN v s k d) v) (wN s k) = 0 := by
  rw [← put_bits hp h0 h1 g0]
  obtain ⟨x, rfl⟩ := Int.eq_ofNat_of_zero_le h0
  obtain ⟨y, rfl⟩ := Int.eq_ofNat_of_zero_le g0
  have hx : x < 4294967296 := by omega
  have hw := w_lt hp
  have e1 : (y : Int) * ((256 ^ s : Nat) : Int) % 4294967296 = ((y * 2 ^ (8 * s) % 4294967296 : Nat) : Int) := by rw [p256, ← Int.natCast_mul]; omega
  have hz : y * 2 ^ (8 * s) % 4294967296 < 4294967296 := Nat.mod_lt _ (by decide)
  rw [wN_two, e1]
  generalize y * 2 ^ (8 * s) % 4294967296 = z at *
  generalize (2 ^ (8 * k) - 1) * 2 ^ (8 * s) = W at *
  have hA : x &&& (4294967295 - W) < 2 ^ 32 := Nat.and_lt_two_pow _ (by omega)
  have hB : z &&& W < 2 ^ 32 := Nat.and_lt_two_pow _ (by omega)
  have hC : (x &&& (4294967295 - W)) ||| (z &&& W) < 2 ^ 32 := Nat.or_lt_two_pow hA hB
  have hD : ((x &&& (4294967295 - W)) ||| (z &&& W)) ^^^ x < 2 ^ 32 := Nat.xor_lt_two_pow hC (by omega)
  rw [u32_andNot_nat x _ hx hw, u32_and_nat _ _ hz hw, u32_or_nat _ _ hA hB, u32_xor_nat _ _ hC hx, u32_andNot_nat _ _ hD hw]
  have e : (((x &&& (4294967295 - W)) ||| (z &&& W)) ^^^ x) &&& (4294967295 - W) = 0 := by
    apply Nat.eq_of_testBit_eq
    intro i
    rw [show 4294967295 - W = 2 ^ 32 - (W + 1) by omega]
    simp only [Nat.testBit_and, Nat.testBit_or, Nat.testBit_xor, Nat.testBit_two_pow_sub_succ (show W < 2 ^ 32 from hw), Nat.zero_testBit]
    cases decide (i < 32) <;> cases W.testBit i <;> cases x.testBit i <;> cases z.testBit i <;> rfl
  rw [e]; rfl
end Go.Proofs.YtffjnahcdgpklaaDoor.Lane
/- Contracts of package lane's small functions: lane, shift, multiple, aligned, mask, Wide. -/
namespace Go.Proofs.YtffjnahcdgpklaaDoor.Lane
open Go.RowKit
set_option linter.unusedVariables false

theorem ret_bool {x y : Bool} (h : x = y) : Ending.returned (.bool x) = .returned (.bool y) := by rw [h]
theorem ret_int {k : IntKind} {a b : Int} (h : a = b) : Ending.returned (.int k a) = .returned (.int k b) := by rw [h]

theorem lane_val (a : Int) (s : Nat) (w : World) (ha : 0 ≤ a) (ha' : a < 4294967296) (hs : a % 4 = s) :
    Calls Tryd.prog 57 #[.int .u32 a] w fun e w' => e = .returned (.int .u64 s) ∧ w = w' := by
  go_enter Tryd.func57, Tryd.ntmps57
  go_wp2
  go_ret
  exact ⟨ret_int (by omega), rfl⟩

theorem shift_val (a : Int) (s : Nat) (w : World) (ha : 0 ≤ a) (ha' : a < 4294967296) (hs : a % 4 = s) :
    Calls Tryd.prog 53 #[.int .u32 a] w fun e w' => e = .returned (.int .u64 (8 * s : Nat)) ∧ w = w' := by
  have hs4 : s < 4 := by omega
  go_enter Tryd.func53, Tryd.ntmps53
  go_wp2_with (go_at_call 57; refine (lane_val a s _ ha ha' hs).mono ?_; rintro e w' ⟨rfl, rfl⟩)
  go_ret
  exact ⟨ret_int (by omega), rfl⟩

theorem multiple_any (a n : Int) (b : Bool) (w : World) (ha : 0 ≤ a) (ha' : a < 4294967296) (hn : n = 1 ∨ n = 2 ∨ n = 4) (hb : decide (a % n = 0) = b) :
    Calls Tryd.prog 54 #[.int .u32 a, .int .i64 n] w fun e w' => e = .returned (.bool b) ∧ w = w' := by
  subst hb
  rcases hn with rfl | rfl | rfl
  · go_enter Tryd.func54, Tryd.ntmps54
    go_wp2
    go_ret
    exact ⟨ret_bool (by rw [Bool.eq_iff_iff]; simp), rfl⟩
  · go_enter Tryd.func54, Tryd.ntmps54
    go_wp2
    go_ret
    exact ⟨ret_bool (by rw [Bool.eq_iff_iff]; simp), rfl⟩
  · go_enter Tryd.func54, Tryd.ntmps54
    go_wp2
    go_ret
    exact ⟨ret_bool (by rw [Bool.eq_iff_iff]; simp), rfl⟩

theorem size_val (n : Int) (b : Bool) (w : World) (hb : Word.sizeB n = b) :
    Calls Tryd.prog 21 #[.int .i64 n] w fun e w' => e = .returned (.bool b) ∧ w = w' := by
  subst hb; exact Word.size_any n w

theorem at_any (a n : Int) (w : World) :
    Calls Tryd.prog 47 #[.int .u32 a, .int .i64 n] w fun e w' => e = .returned (.agg #[.int .u32 a, .int .i64 n]) ∧ Below w.heap.size w w' := by
  go_enter Tryd.func47, Tryd.ntmps47
  go_wp2
  refine bodyPost_ret (v := .agg #[.int .u32 a, .int .i64 n]) ?_ rfl ⟨rfl, (Below.refl _ _).alloc (Nat.le_refl _) _⟩
  simp [results, Tryd.results47, go_sem]

theorem aligned_any (a n : Int) (b : Bool) (w : World) (ha : 0 ≤ a) (ha' : a < 4294967296) (hb : alB a n = b) :
    Calls Tryd.prog 51 #[.agg #[.int .u32 a, .int .i64 n]] w fun e w' => e = .returned (.bool b) ∧ Below w.heap.size w w' := by
  by_cases hs : Word.sizeB n = true
  · obtain ⟨m, hm⟩ : ∃ m, decide (a % n = 0) = m := ⟨_, rfl⟩
    have hn := Word.sizeB_yes hs
    have e : b = m := by rw [← hb, ← hm]; unfold alB; rw [hs]; simp
    subst e
    clear hb
    go_enter Tryd.func51, Tryd.ntmps51
    go_wp2_with (first | (go_at_call 21; refine (size_val n true _ hs).mono ?_; rintro e w' ⟨rfl, rfl⟩) | (go_at_call 54; refine (multiple_any a n b _ ha ha' hn hm).mono ?_; rintro e w' ⟨rfl, rfl⟩))
    go_ret
    exact ⟨rfl, (Below.refl _ _).alloc (Nat.le_refl _) _⟩
  · have hs' : Word.sizeB n = false := by simpa using hs
    have e : b = false := by rw [← hb]; unfold alB; rw [hs']; rfl
    subst e
    clear hb
    go_enter Tryd.func51, Tryd.ntmps51
    go_wp2_with (go_at_call 21; refine (size_val n false _ hs').mono ?_; rintro e w' ⟨rfl, rfl⟩)
    go_ret
    exact ⟨rfl, (Below.refl _ _).alloc (Nat.le_refl _) _⟩

/-- A place in a block. -/
theorem alloc_keep {w : World} {a : Addr} {v : Value} (h : w.cell? a = some v) (o : Obj) : (w.alloc o).cell? a = some v := cell_keep ((Below.refl _ _).alloc (Nat.le_refl _) o) h
theorem place_new (w : World) (a n : Int) (t : TypeId) : (w.alloc (.cells #[.int .u32 a, .int .i64 n] t)).cell? ⟨w.heap.size, 0, none⟩ = some (.int .u32 a) ∧ (w.alloc (.cells #[.int .u32 a, .int .i64 n] t)).cell? ⟨w.heap.size, 1, none⟩ = some (.int .i64 n) :=
  ⟨World.cell?_alloc_at _ _ _ 0 rfl, World.cell?_alloc_at _ _ _ 1 rfl⟩
/-- The mask of a place, drawn. -/
theorem mask_val {s k : Nat} (hp : Place s k) (a n : Int) (w : World) (ha : 0 ≤ a) (ha' : a < 4294967296) (hs : a % 4 = s) (hk : n = k) :
    Calls Tryd.prog 56 #[.agg #[.int .u32 a, .int .i64 n]] w fun e w' => e = .returned (.int .u32 (mN s k)) ∧ Below w.heap.size w w' := by
  obtain ⟨x, hx⟩ : ∃ x, mN s k = x := ⟨_, rfl⟩
  obtain ⟨y, hy⟩ : ∃ y : Int, y = s := ⟨_, rfl⟩
  rw [hx]
  subst hk
  have L := fun w => lane_val a s w ha ha' hs
  rw [← hy] at L hs
  have key : ∀ y z : Int, y = s → z = k → (∀ w, Calls Tryd.prog 57 #[.int .u32 a] w fun e w' => e = .returned (.int .u64 y) ∧ w = w') →
      Calls Tryd.prog 56 #[.agg #[.int .u32 a, .int .i64 z]] w fun e w' => e = .returned (.int .u32 x) ∧ Below w.heap.size w w' := by
    subst hx
    clear L hs hy y
    refine Place.all (P := fun s k => ∀ y z : Int, y = s → z = k → (∀ w, Calls Tryd.prog 57 #[.int .u32 a] w fun e w' => e = .returned (.int .u64 y) ∧ w = w') →
      Calls Tryd.prog 56 #[.agg #[.int .u32 a, .int .i64 z]] w fun e w' => e = .returned (.int .u32 (mN s k)) ∧ Below w.heap.size w w') ?_ ?_ ?_ ?_ ?_ ?_ ?_ hp
    all_goals
      intro y z hy hz L
      have cs := place_new w a z 76
      simp only [Int.cast_ofNat_Int] at hy hz
      subst hy
      subst hz
      go_enter Tryd.func56, Tryd.ntmps56
      go_wp2_with fail
      refine wp_region_ext (by kernel_rfl) (by kernel_rfl) ?_
      intro W hW
      have B : Below w.heap.size w W := by rw [hW.out]; exact (Below.refl _ _).alloc (Nat.le_refl _) _
      rw [← hW.out] at cs
      have c0 := ext_cell cs.1
      have c1 := ext_cell cs.2
      have HbW := Lib.hid B
      clear cs B
      repeat (go_big_quiet_step ((go_at_call 57; exact ext_same (L _))))
      refine wpQuiet_nil ?_
      intro w' hw'
      obtain ⟨p, rfl⟩ := hw'
      go_wp2_with fail
      go_ret
      exact ⟨rfl, HbW.out.trans ((ext_below W p).mono HbW.out.size)⟩
  exact key y k hy rfl L

/-- The package's table of wide lanes holds them. -/
def Tab (w : World) : Prop := ∀ i : Nat, i < 4 → w.cell? ⟨0, i, none⟩ = some (.int .u32 (255 * 256 ^ i : Nat))
theorem Tab.below {w w' : World} (h : Tab w) (hb : Below w.heap.size w w') : Tab w' := fun i hi => by
  have c := h i hi
  rw [hb.cell (World.block_lt_of_cell? w _ c)]
  exact c

theorem Wide_any (m : Int) (w : World) (hm : 0 ≤ m) (hm' : m < 4294967296) (ht : Tab w) :
    Calls Tryd.prog 55 #[.int .u32 m] w fun e w' => e = .returned (.int .u32 (wideV m)) ∧ w = w' := by
  have H := Lib.hid ht
  clear ht
  go_enter Tryd.func55, Tryd.ntmps55
  go_wp2
  go_loop [3, 5] (fun x i => ∃ k : Nat, k ≤ 4 ∧ i = .int .i64 k ∧ x = .int .u32 (wS m k) ∧ 0 ≤ wS m k ∧ wS m k < (256 ^ k : Nat)) (fun _ i => 4 - (intOf i).toNat)
  case atStart => exact ⟨0, by omega, rfl, rfl, by simp [wS], by simp [wS]⟩
  case round =>
    obtain ⟨k, hk, rfl, rfl, hb0, hb1⟩ := hrel
    by_cases hlt : k < 4
    · have c1 := H.out k hlt
      go_wp2
      · rename_i hc
        obtain ⟨e1, e2, e3⟩ := wS_yes hm hm' hc hlt hb0 hb1
        exact ⟨⟨k + 1, by omega, by go_num, by rw [e1], e2, e3⟩, by simp [intOf]; omega⟩
      · rename_i hc
        obtain ⟨e1, e2, e3⟩ := wS_no hm hm' (by rw [hc]; simp) hb0 hb1
        exact ⟨⟨k + 1, by omega, by go_num, by rw [e1], e2, e3⟩, by simp [intOf]; omega⟩
    · obtain rfl : k = 4 := by omega
      go_wp2
      go_ret
      exact ⟨rfl, rfl⟩

theorem Wide_val (m x : Int) (w : World) (hm : 0 ≤ m) (hm' : m < 4294967296) (ht : Tab w) (hx : wideV m = x) :
    Calls Tryd.prog 55 #[.int .u32 m] w fun e w' => e = .returned (.int .u32 x) ∧ w = w' := by
  subst hx; exact Wide_any m w hm hm' ht
end Go.Proofs.YtffjnahcdgpklaaDoor.Lane
/- Contracts of package lane: what is asked of a place at work; what is told; Aligned, Mask, Take, Put. -/
namespace Go.Proofs.YtffjnahcdgpklaaDoor.Lane
open Go.RowKit
set_option linter.unusedVariables false

theorem wide_val {s k : Nat} (hp : Place s k) (a n x : Int) (w : World) (ha : 0 ≤ a) (ha' : a < 4294967296) (hs : a % 4 = s) (hk : n = k) (ht : Tab w) (hx : wN s k = x) :
    Calls Tryd.prog 52 #[.agg #[.int .u32 a, .int .i64 n]] w fun e w' => e = .returned (.int .u32 x) ∧ Below w.heap.size w w' := by
  have hb0 := (mN_bd hp).1
  have hb1 := (mN_bd hp).2
  have hw := wide_mask hp
  rw [hx] at hw
  have L := fun w => mask_val hp a n w ha ha' hs hk
  obtain ⟨m, hm⟩ : ∃ m, mN s k = m := ⟨_, rfl⟩
  rw [hm] at hb0 hb1 hw L
  clear hx hm hs hk hp
  have H := Lib.hid ht
  clear ht
  go_enter Tryd.func52, Tryd.ntmps52
  go_wp2_with fail
  refine (L _).mono ?_
  rintro e w1 ⟨rfl, hb⟩
  have Hb := Lib.hid (((Below.refl w.heap.size w).alloc (Nat.le_refl _) _).trans (hb.mono (by simp)))
  clear hb
  have T1 := Lib.hid (H.out.below Hb.out)
  go_wp2_with fail
  refine (Wide_val m x _ (by omega) (by omega) T1.out hw).mono ?_
  rintro e w2 ⟨rfl, rfl⟩
  go_wp2_with fail
  go_ret
  exact ⟨rfl, Hb.out⟩

/-- A cell in a block. -/
structure Cl (w : World) (b : Nat) (a n v d : Int) : Prop where
  c0 : w.cell? ⟨b, 0, none⟩ = some (.int .u32 a)
  c1 : w.cell? ⟨b, 1, none⟩ = some (.int .i64 n)
  c2 : w.cell? ⟨b, 2, none⟩ = some (.int .u32 v)
  c3 : w.cell? ⟨b, 3, none⟩ = some (.int .u32 d)
theorem cl_new (w : World) (a n v d : Int) (t : TypeId) : Cl (w.alloc (.cells #[.int .u32 a, .int .i64 n, .int .u32 v, .int .u32 d] t)) w.heap.size a n v d :=
  ⟨World.cell?_alloc_at _ _ _ 0 rfl, World.cell?_alloc_at _ _ _ 1 rfl, World.cell?_alloc_at _ _ _ 2 rfl, World.cell?_alloc_at _ _ _ 3 rfl⟩

set_option maxHeartbeats 400000 in
theorem taken_val {s k : Nat} (hp : Place s k) (a n v d : Int) (w : World) (ha : 0 ≤ a) (ha' : a < 4294967296) (hv : 0 ≤ v) (hv' : v < 4294967296) (hs : a % 4 = s) (hk : n = k) (ht : Tab w) :
    Calls Tryd.prog 50 #[.agg #[.int .u32 a, .int .i64 n, .int .u32 v, .int .u32 d]] w fun e w' => e = .returned (.int .u32 (tN v s k)) ∧ Below w.heap.size w w' := by
  have key := taken_bits hp hv hv'
  have W1 := fun w ht => wide_val hp a n _ w ha ha' hs hk ht rfl
  have S1 := fun w => shift_val a s w ha ha' hs
  have hs4 : s < 4 := by omega
  obtain ⟨x, hx⟩ : ∃ x, wN s k = x := ⟨_, rfl⟩
  rw [hx] at key W1
  clear hx hs hk hp
  have H := Lib.hid ht
  clear ht
  go_enter Tryd.func50, Tryd.ntmps50
  go_wp2_with fail
  refine wp_region_ext (by kernel_rfl) (by kernel_rfl) ?_
  intro W hW
  have B : Below w.heap.size w W := by rw [hW.out]; exact (Below.refl _ _).alloc (Nat.le_refl _) _
  have cs := cl_new w a n v d 79
  rw [← hW.out] at cs
  have c0 := ext_cell cs.c0
  have c1 := ext_cell cs.c1
  have c2 := ext_cell cs.c2
  have T1 : Hid (∀ p, Tab (ext W p)) := fun p => H.out.below (B.trans ((ext_below W p).mono B.size))
  have HbW := Lib.hid B
  clear cs B
  repeat (go_big_quiet_step ((first | (go_at_call 52; exact ext_of (W1 _ (T1.out _))) | (go_at_call 53; exact ext_same (S1 _)))))
  refine wpQuiet_nil ?_
  intro w' hw'
  obtain ⟨p, rfl⟩ := hw'
  go_wp2_with fail
  go_ret
  exact ⟨ret_int (by rw [← key, p256]; simp), HbW.out.trans ((ext_below W p).mono HbW.out.size)⟩

set_option maxHeartbeats 400000 in
theorem cput_val {s k : Nat} (hp : Place s k) (a n v d : Int) (w : World) (ha : 0 ≤ a) (ha' : a < 4294967296) (hv : 0 ≤ v) (hv' : v < 4294967296) (hd : 0 ≤ d) (hs : a % 4 = s) (hk : n = k) (ht : Tab w) :
    Calls Tryd.prog 49 #[.agg #[.int .u32 a, .int .i64 n, .int .u32 v, .int .u32 d]] w fun e w' => e = .returned (.int .u32 (pN v s k d)) ∧ Below w.heap.size w w' := by
  have key := put_bits hp hv hv' hd
  have W1 := fun w ht => wide_val hp a n _ w ha ha' hs hk ht rfl
  have S1 := fun w => shift_val a s w ha ha' hs
  have hs4 : s < 4 := by omega
  obtain ⟨x, hx⟩ : ∃ x, wN s k = x := ⟨_, rfl⟩
  rw [hx] at key W1
  clear hx hs hk hp
  have H := Lib.hid ht
  clear ht
  go_enter Tryd.func49, Tryd.ntmps49
  go_wp2_with fail
  refine wp_region_ext (by kernel_rfl) (by kernel_rfl) ?_
  intro W hW
  have B : Below w.heap.size w W := by rw [hW.out]; exact (Below.refl _ _).alloc (Nat.le_refl _) _
  have cs := cl_new w a n v d 79
  rw [← hW.out] at cs
  have c0 := ext_cell cs.c0
  have c1 := ext_cell cs.c1
  have c2 := ext_cell cs.c2
  have c3 := ext_cell cs.c3
  have T1 : Hid (∀ p, Tab (ext W p)) := fun p => H.out.below (B.trans ((ext_below W p).mono B.size))
  have HbW := Lib.hid B
  clear cs B
  repeat (go_big_quiet_step ((first | (go_at_call 52; exact ext_of (W1 _ (T1.out _))) | (go_at_call 53; exact ext_same (S1 _)))))
  refine wpQuiet_nil ?_
  intro w' hw'
  obtain ⟨p, rfl⟩ := hw'
  go_wp2_with fail
  go_ret
  exact ⟨ret_int (by rw [← key, p256]; simp), HbW.out.trans ((ext_below W p).mono HbW.out.size)⟩

theorem told_mask (a n x : Int) (w : World) (ha : 0 ≤ a) (ha' : a < 4294967296) (h : alB a n = true) (ht : Tab w)
    (L : ∀ w, Tab w → Calls Tryd.prog 56 #[.agg #[.int .u32 a, .int .i64 n]] w fun e w' => e = .returned (.int .u32 x) ∧ Below w.heap.size w w') :
    Calls Tryd.prog 48 #[.agg #[.int .u32 a, .int .i64 n], .func (.func 56) #[.agg #[.int .u32 a, .int .i64 n]] #[]] w fun e w' => e = .returned (.tuple #[.int .u32 x, .bool true]) ∧ Below w.heap.size w w' := by
  have H := Lib.hid ht
  have Al := fun w => aligned_any a n true w ha ha' h
  clear ht h
  go_enter Tryd.func48, Tryd.ntmps48
  go_wp2_with fail
  refine (Al _).mono ?_
  rintro e w1 ⟨rfl, hb⟩
  have Hb := Lib.hid (((Below.refl w.heap.size w).alloc (Nat.le_refl _) _).trans (hb.mono (by simp)))
  clear hb
  have T1 := Lib.hid (H.out.below Hb.out)
  go_wp2_with fail
  refine (L _ T1.out).mono ?_
  rintro e w2 ⟨rfl, hb⟩
  have Hb2 := Lib.hid (Hb.out.trans (hb.mono Hb.out.size))
  clear hb
  go_wp2_with fail
  go_ret2
  exact ⟨rfl, Hb2.out⟩
theorem told_mask_no (a n : Int) (w : World) (ha : 0 ≤ a) (ha' : a < 4294967296) (h : alB a n = false) :
    Calls Tryd.prog 48 #[.agg #[.int .u32 a, .int .i64 n], .func (.func 56) #[.agg #[.int .u32 a, .int .i64 n]] #[]] w fun e w' => e = .returned (.tuple #[.int .u32 0, .bool false]) ∧ Below w.heap.size w w' := by
  have Al := fun w => aligned_any a n false w ha ha' h
  clear h
  go_enter Tryd.func48, Tryd.ntmps48
  go_wp2_with fail
  refine (Al _).mono ?_
  rintro e w1 ⟨rfl, hb⟩
  have Hb := Lib.hid (((Below.refl w.heap.size w).alloc (Nat.le_refl _) _).trans (hb.mono (by simp)))
  clear hb
  go_wp2_with fail
  go_ret2
  exact ⟨rfl, Hb.out⟩

theorem told_taken (a n x : Int) (v d : Int) (w : World) (ha : 0 ≤ a) (ha' : a < 4294967296) (h : alB a n = true) (ht : Tab w)
    (L : ∀ w, Tab w → Calls Tryd.prog 50 #[.agg #[.int .u32 a, .int .i64 n, .int .u32 v, .int .u32 d]] w fun e w' => e = .returned (.int .u32 x) ∧ Below w.heap.size w w') :
    Calls Tryd.prog 48 #[.agg #[.int .u32 a, .int .i64 n], .func (.func 50) #[.agg #[.int .u32 a, .int .i64 n, .int .u32 v, .int .u32 d]] #[]] w fun e w' => e = .returned (.tuple #[.int .u32 x, .bool true]) ∧ Below w.heap.size w w' := by
  have H := Lib.hid ht
  have Al := fun w => aligned_any a n true w ha ha' h
  clear ht h
  go_enter Tryd.func48, Tryd.ntmps48
  go_wp2_with fail
  refine (Al _).mono ?_
  rintro e w1 ⟨rfl, hb⟩
  have Hb := Lib.hid (((Below.refl w.heap.size w).alloc (Nat.le_refl _) _).trans (hb.mono (by simp)))
  clear hb
  have T1 := Lib.hid (H.out.below Hb.out)
  go_wp2_with fail
  refine (L _ T1.out).mono ?_
  rintro e w2 ⟨rfl, hb⟩
  have Hb2 := Lib.hid (Hb.out.trans (hb.mono Hb.out.size))
  clear hb
  go_wp2_with fail
  go_ret2
  exact ⟨rfl, Hb2.out⟩
theorem told_taken_no (a n : Int) (v d : Int) (w : World) (ha : 0 ≤ a) (ha' : a < 4294967296) (h : alB a n = false) :
    Calls Tryd.prog 48 #[.agg #[.int .u32 a, .int .i64 n], .func (.func 50) #[.agg #[.int .u32 a, .int .i64 n, .int .u32 v, .int .u32 d]] #[]] w fun e w' => e = .returned (.tuple #[.int .u32 0, .bool false]) ∧ Below w.heap.size w w' := by
  have Al := fun w => aligned_any a n false w ha ha' h
  clear h
  go_enter Tryd.func48, Tryd.ntmps48
  go_wp2_with fail
  refine (Al _).mono ?_
  rintro e w1 ⟨rfl, hb⟩
  have Hb := Lib.hid (((Below.refl w.heap.size w).alloc (Nat.le_refl _) _).trans (hb.mono (by simp)))
  clear hb
  go_wp2_with fail
  go_ret2
  exact ⟨rfl, Hb.out⟩

theorem told_put (a n x : Int) (v d : Int) (w : World) (ha : 0 ≤ a) (ha' : a < 4294967296) (h : alB a n = true) (ht : Tab w)
    (L : ∀ w, Tab w → Calls Tryd.prog 49 #[.agg #[.int .u32 a, .int .i64 n, .int .u32 v, .int .u32 d]] w fun e w' => e = .returned (.int .u32 x) ∧ Below w.heap.size w w') :
    Calls Tryd.prog 48 #[.agg #[.int .u32 a, .int .i64 n], .func (.func 49) #[.agg #[.int .u32 a, .int .i64 n, .int .u32 v, .int .u32 d]] #[]] w fun e w' => e = .returned (.tuple #[.int .u32 x, .bool true]) ∧ Below w.heap.size w w' := by
  have H := Lib.hid ht
  have Al := fun w => aligned_any a n true w ha ha' h
  clear ht h
  go_enter Tryd.func48, Tryd.ntmps48
  go_wp2_with fail
  refine (Al _).mono ?_
  rintro e w1 ⟨rfl, hb⟩
  have Hb := Lib.hid (((Below.refl w.heap.size w).alloc (Nat.le_refl _) _).trans (hb.mono (by simp)))
  clear hb
  have T1 := Lib.hid (H.out.below Hb.out)
  go_wp2_with fail
  refine (L _ T1.out).mono ?_
  rintro e w2 ⟨rfl, hb⟩
  have Hb2 := Lib.hid (Hb.out.trans (hb.mono Hb.out.size))
  clear hb
  go_wp2_with fail
  go_ret2
  exact ⟨rfl, Hb2.out⟩
theorem told_put_no (a n : Int) (v d : Int) (w : World) (ha : 0 ≤ a) (ha' : a < 4294967296) (h : alB a n = false) :
    Calls Tryd.prog 48 #[.agg #[.int .u32 a, .int .i64 n], .func (.func 49) #[.agg #[.int .u32 a, .int .i64 n, .int .u32 v, .int .u32 d]] #[]] w fun e w' => e = .returned (.tuple #[.int .u32 0, .bool false]) ∧ Below w.heap.size w w' := by
  have Al := fun w => aligned_any a n false w ha ha' h
  clear h
  go_enter Tryd.func48, Tryd.ntmps48
  go_wp2_with fail
  refine (Al _).mono ?_
  rintro e w1 ⟨rfl, hb⟩
  have Hb := Lib.hid (((Below.refl w.heap.size w).alloc (Nat.le_refl _) _).trans (hb.mono (by simp)))
  clear hb
  go_wp2_with fail
  go_ret2
  exact ⟨rfl, Hb.out⟩

end Go.Proofs.YtffjnahcdgpklaaDoor.Lane
/- Contracts of package lane's functions: Mask, Take, Put. -/
namespace Go.Proofs.YtffjnahcdgpklaaDoor.Lane
open Go.RowKit
set_option linter.unusedVariables false

theorem Take_yes (a n v : Int) (x : Int) (w : World) (ha : 0 ≤ a) (ha' : a < 4294967296) (hv : 0 ≤ v) (hv' : v < 4294967296) (h : alB a n = true) (ht : Tab w) (hx : takeV v a n = x) :
    Calls Tryd.prog 46 #[.int .u32 v, .int .u32 a, .int .i64 n] w fun e w' => e = .returned (.tuple #[.int .u32 x, .bool true]) ∧ Below w.heap.size w w' := by
  have hmf : ∀ (fn : Fn) (first cap : Array Value) (w : World), (Instr.makeFunc fn first cap).run Tryd.prog w = .ok (.func fn first cap) w := fun _ _ _ _ => rfl
  have T : ∀ w, Tab w → Calls Tryd.prog 48 #[.agg #[.int .u32 a, .int .i64 n], .func (.func 50) #[.agg #[.int .u32 a, .int .i64 n, .int .u32 v, .int .u32 0]] #[]] w fun e w' => e = .returned (.tuple #[.int .u32 x, .bool true]) ∧ Below w.heap.size w w' := by
    intro w ht
    obtain ⟨s, k, hp, hs, hk, _⟩ := place_of h
    refine told_taken a n x v 0 w ha ha' h ht fun w ht => ?_
    rw [← hx, take_at hp hs hk]
    exact taken_val hp a n v 0 w ha ha' hv hv' hs hk ht
  have H := Lib.hid ht
  clear h ht hx
  go_enter Tryd.func46, Tryd.ntmps46
  go_wp2_with fail
  refine (at_any a n _).mono ?_
  rintro e w1 ⟨rfl, hb⟩
  have Hb := Lib.hid hb
  clear hb
  have T1 := Lib.hid (H.out.below (Hb.out.alloc Hb.out.size (.cells #[.int .u32 a, .int .i64 n, .int .u32 v, .int .u32 0] 79)))
  go_wp2_with fail
  refine (T _ T1.out).mono ?_
  rintro e w2 ⟨rfl, hb⟩
  have Hb2 := Lib.hid ((Hb.out.alloc Hb.out.size _).trans (hb.mono (Hb.out.alloc Hb.out.size _).size))
  clear hb
  go_wp2_with fail
  go_ret2
  exact ⟨rfl, Hb2.out⟩
theorem Take_no (a n v : Int) (w : World) (ha : 0 ≤ a) (ha' : a < 4294967296) (h : alB a n = false) :
    Calls Tryd.prog 46 #[.int .u32 v, .int .u32 a, .int .i64 n] w fun e w' => e = .returned (.tuple #[.int .u32 0, .bool false]) ∧ Below w.heap.size w w' := by
  have hmf : ∀ (fn : Fn) (first cap : Array Value) (w : World), (Instr.makeFunc fn first cap).run Tryd.prog w = .ok (.func fn first cap) w := fun _ _ _ _ => rfl
  have T := fun w => told_taken_no a n v 0 w ha ha' h
  clear h
  go_enter Tryd.func46, Tryd.ntmps46
  go_wp2_with fail
  refine (at_any a n _).mono ?_
  rintro e w1 ⟨rfl, hb⟩
  have Hb := Lib.hid hb
  clear hb
  go_wp2_with fail
  refine (T _).mono ?_
  rintro e w2 ⟨rfl, hb⟩
  have Hb2 := Lib.hid ((Hb.out.alloc Hb.out.size _).trans (hb.mono (Hb.out.alloc Hb.out.size _).size))
  clear hb
  go_wp2_with fail
  go_ret2
  exact ⟨rfl, Hb2.out⟩
theorem Take_any (a n v x : Int) (b : Bool) (w : World) (ha : 0 ≤ a) (ha' : a < 4294967296) (hv : 0 ≤ v) (hv' : v < 4294967296) (ht : Tab w) (hx : takeV v a n = x) (hb : alB a n = b) :
    Calls Tryd.prog 46 #[.int .u32 v, .int .u32 a, .int .i64 n] w fun e w' => e = .returned (.tuple #[.int .u32 x, .bool b]) ∧ Below w.heap.size w w' := by
  subst hb
  by_cases h : alB a n = true
  · rw [h]
    exact Take_yes a n v x w ha ha' hv hv' h ht hx
  · have h' : alB a n = false := by simpa using h
    rw [h', ← hx, take_no h']
    exact Take_no a n v w ha ha' h'

theorem Put_yes (a n v d : Int) (x : Int) (w : World) (ha : 0 ≤ a) (ha' : a < 4294967296) (hv : 0 ≤ v) (hv' : v < 4294967296) (hd : 0 ≤ d) (h : alB a n = true) (ht : Tab w) (hx : putV v a n d = x) :
    Calls Tryd.prog 42 #[.int .u32 v, .int .u32 a, .int .i64 n, .int .u32 d] w fun e w' => e = .returned (.tuple #[.int .u32 x, .bool true]) ∧ Below w.heap.size w w' := by
  have hmf : ∀ (fn : Fn) (first cap : Array Value) (w : World), (Instr.makeFunc fn first cap).run Tryd.prog w = .ok (.func fn first cap) w := fun _ _ _ _ => rfl
  have T : ∀ w, Tab w → Calls Tryd.prog 48 #[.agg #[.int .u32 a, .int .i64 n], .func (.func 49) #[.agg #[.int .u32 a, .int .i64 n, .int .u32 v, .int .u32 d]] #[]] w fun e w' => e = .returned (.tuple #[.int .u32 x, .bool true]) ∧ Below w.heap.size w w' := by
    intro w ht
    obtain ⟨s, k, hp, hs, hk, _⟩ := place_of h
    refine told_put a n x v d w ha ha' h ht fun w ht => ?_
    rw [← hx, put_at hp hs hk]
    exact cput_val hp a n v d w ha ha' hv hv' hd hs hk ht
  have H := Lib.hid ht
  clear h ht hx
  go_enter Tryd.func42, Tryd.ntmps42
  go_wp2_with fail
  refine (at_any a n _).mono ?_
  rintro e w1 ⟨rfl, hb⟩
  have Hb := Lib.hid hb
  clear hb
  have T1 := Lib.hid (H.out.below (Hb.out.alloc Hb.out.size (.cells #[.int .u32 a, .int .i64 n, .int .u32 v, .int .u32 d] 79)))
  go_wp2_with fail
  refine (T _ T1.out).mono ?_
  rintro e w2 ⟨rfl, hb⟩
  have Hb2 := Lib.hid ((Hb.out.alloc Hb.out.size _).trans (hb.mono (Hb.out.alloc Hb.out.size _).size))
  clear hb
  go_wp2_with fail
  go_ret2
  exact ⟨rfl, Hb2.out⟩
theorem Put_no (a n v d : Int) (w : World) (ha : 0 ≤ a) (ha' : a < 4294967296) (h : alB a n = false) :
    Calls Tryd.prog 42 #[.int .u32 v, .int .u32 a, .int .i64 n, .int .u32 d] w fun e w' => e = .returned (.tuple #[.int .u32 0, .bool false]) ∧ Below w.heap.size w w' := by
  have hmf : ∀ (fn : Fn) (first cap : Array Value) (w : World), (Instr.makeFunc fn first cap).run Tryd.prog w = .ok (.func fn first cap) w := fun _ _ _ _ => rfl
  have T := fun w => told_put_no a n v d w ha ha' h
  clear h
  go_enter Tryd.func42, Tryd.ntmps42
  go_wp2_with fail
  refine (at_any a n _).mono ?_
  rintro e w1 ⟨rfl, hb⟩
  have Hb := Lib.hid hb
  clear hb
  go_wp2_with fail
  refine (T _).mono ?_
  rintro e w2 ⟨rfl, hb⟩
  have Hb2 := Lib.hid ((Hb.out.alloc Hb.out.size _).trans (hb.mono (Hb.out.alloc Hb.out.size _).size))
  clear hb
  go_wp2_with fail
  go_ret2
  exact ⟨rfl, Hb2.out⟩
theorem Put_any (a n v d x : Int) (b : Bool) (w : World) (ha : 0 ≤ a) (ha' : a < 4294967296) (hv : 0 ≤ v) (hv' : v < 4294967296) (hd : 0 ≤ d) (ht : Tab w) (hx : putV v a n d = x) (hb : alB a n = b) :
    Calls Tryd.prog 42 #[.int .u32 v, .int .u32 a, .int .i64 n, .int .u32 d] w fun e w' => e = .returned (.tuple #[.int .u32 x, .bool b]) ∧ Below w.heap.size w w' := by
  subst hb
  by_cases h : alB a n = true
  · rw [h]
    exact Put_yes a n v d x w ha ha' hv hv' hd h ht hx
  · have h' : alB a n = false := by simpa using h
    rw [h', ← hx, put_no h']
    exact Put_no a n v d w ha ha' h'
end Go.Proofs.YtffjnahcdgpklaaDoor.Lane
