/- Put together: La, Lb, Lc, Ld. -/
import Derived.Test.YtknhgfofmkpnfaaGreatBa
import Derived.Laws.BitsAllLaws
import Derived.WalkKit
import Derived.WalkLawsBesides
import Derived.Handy
import Derived.Outline
import Derived.Below
import Derived.Lib.Hide
/- Plain mathematics of a word's lanes: places, masks, what stands there, what is put there. -/
namespace Go.Proofs.YtknhgfofmkpnfaaGreat.Lane
open Go.RowKit

/-- Four words of 32 bits: what the table holds. -/
structure OTab where
  T : Nat → Int
  bd : ∀ i, 0 ≤ T i ∧ T i < 4294967296
set_option linter.unusedSectionVars false
set_option linter.unusedVariables false
variable [Inhabited OTab]
def tabT (i : Nat) : Int := (default : OTab).T i
theorem tabT_bd (i : Nat) : 0 ≤ tabT i ∧ tabT i < 4294967296 := (default : OTab).bd i
/-- All bits of lanes: the first k lanes of a mask, all four. -/
def wS (m : Int) : Nat → Int
  | 0 => 0
  | k + 1 => if (bits .and .u32 (m / 2 ^ k) 1 == 1) = true then bits .or .u32 (wS m k) (tabT k) else wS m k
def wideV (m : Int) : Int := wS m 4
theorem or_bd {x y : Int} (h0 : 0 ≤ x) (h1 : x < 4294967296) (g0 : 0 ≤ y) (g1 : y < 4294967296) : 0 ≤ bits .or .u32 x y ∧ bits .or .u32 x y < 4294967296 := by
  obtain ⟨a, rfl⟩ := Int.eq_ofNat_of_zero_le h0
  obtain ⟨b, rfl⟩ := Int.eq_ofNat_of_zero_le g0
  rw [u32_or_nat a b (by omega) (by omega)]
  have : a ||| b < 2 ^ 32 := Nat.or_lt_two_pow (by omega) (by omega)
  omega
theorem and_bd {x y : Int} (h0 : 0 ≤ x) (h1 : x < 4294967296) (g0 : 0 ≤ y) (g1 : y < 4294967296) : 0 ≤ bits .and .u32 x y ∧ bits .and .u32 x y < 4294967296 := by
  obtain ⟨a, rfl⟩ := Int.eq_ofNat_of_zero_le h0
  obtain ⟨b, rfl⟩ := Int.eq_ofNat_of_zero_le g0
  rw [u32_and_nat a b (by omega) (by omega)]
  have : a &&& b < 2 ^ 32 := Nat.and_lt_two_pow _ (by omega)
  omega
theorem andNot_bd {x y : Int} (h0 : 0 ≤ x) (h1 : x < 4294967296) (g0 : 0 ≤ y) (g1 : y < 4294967296) : 0 ≤ bits .andNot .u32 x y ∧ bits .andNot .u32 x y < 4294967296 := by
  obtain ⟨a, rfl⟩ := Int.eq_ofNat_of_zero_le h0
  obtain ⟨b, rfl⟩ := Int.eq_ofNat_of_zero_le g0
  rw [u32_andNot_nat a b (by omega) (by omega)]
  have : a &&& (4294967295 - b) < 2 ^ 32 := Nat.and_lt_two_pow _ (by omega)
  omega
theorem wS_bd (m : Int) : ∀ k, 0 ≤ wS m k ∧ wS m k < 4294967296
  | 0 => ⟨Int.le_refl 0, by show (0 : Int) < _; omega⟩
  | k + 1 => by
    rw [wS]
    split
    · exact or_bd (wS_bd m k).1 (wS_bd m k).2 (tabT_bd k).1 (tabT_bd k).2
    · exact wS_bd m k
/-- Is a an aligned place of the size n? -/
def alB (a n : Int) : Bool := Word.sizeB n && decide (a % n = 0)
/-- The mask of k lanes from lane s on; wide; what stands there; what is put there. -/
def mN (s k : Nat) : Int := ((2 ^ k - 1) * 2 ^ s : Nat)
def wN (s k : Nat) : Int := wideV (mN s k)
def tN (v : Int) (s k : Nat) : Int := bits .and .u32 v (wN s k) / ((256 ^ s : Nat) : Int)
def pN (v : Int) (s k : Nat) (d : Int) : Int := bits .or .u32 (bits .andNot .u32 v (wN s k)) (bits .and .u32 (d * ((256 ^ s : Nat) : Int) % 4294967296) (wN s k))
def maskV (a n : Int) : Int := if alB a n then mN (a % 4).toNat n.toNat else 0
def takeV (v a n : Int) : Int := if alB a n then tN v (a % 4).toNat n.toNat else 0
def putV (v a n d : Int) : Int := if alB a n then pN v (a % 4).toNat n.toNat d else 0
/-- The seven places. -/
def Place (s k : Nat) : Prop := (k = 1 ∧ (s = 0 ∨ s = 1 ∨ s = 2 ∨ s = 3)) ∨ (k = 2 ∧ (s = 0 ∨ s = 2)) ∨ (k = 4 ∧ s = 0)
theorem place_of {a n : Int} (h : alB a n = true) : ∃ s k : Nat, Place s k ∧ a % 4 = s ∧ n = k ∧ (a % 4).toNat = s ∧ n.toNat = k := by
  unfold alB at h
  rw [Bool.and_eq_true, decide_eq_true_eq] at h
  obtain ⟨h1, h2⟩ := h
  refine ⟨(a % 4).toNat, n.toNat, ?_, ?_⟩
  · unfold Place
    rcases Word.sizeB_yes h1 with rfl | rfl | rfl <;> omega
  · rcases Word.sizeB_yes h1 with rfl | rfl | rfl <;> omega
theorem al_place {a n : Int} {s k : Nat} (hp : Place s k) (hs : a % 4 = s) (hk : n = k) : alB a n = true := by
  unfold alB
  rw [Bool.and_eq_true, decide_eq_true_eq]
  subst hk
  rcases hp with ⟨rfl, _⟩ | ⟨rfl, _⟩ | ⟨rfl, _⟩
  · exact ⟨rfl, by omega⟩
  · exact ⟨rfl, by omega⟩
  · exact ⟨rfl, by omega⟩
theorem mask_at {a n : Int} {s k : Nat} (hp : Place s k) (hs : a % 4 = s) (hk : n = k) : maskV a n = mN s k := by
  unfold maskV; rw [if_pos (al_place hp hs hk), hs, hk]; rfl
theorem take_at {v a n : Int} {s k : Nat} (hp : Place s k) (hs : a % 4 = s) (hk : n = k) : takeV v a n = tN v s k := by
  unfold takeV; rw [if_pos (al_place hp hs hk), hs, hk]; rfl
theorem put_at {v a n d : Int} {s k : Nat} (hp : Place s k) (hs : a % 4 = s) (hk : n = k) : putV v a n d = pN v s k d := by
  unfold putV; rw [if_pos (al_place hp hs hk), hs, hk]; rfl
theorem mask_no {a n : Int} (h : alB a n = false) : maskV a n = 0 := by unfold maskV; rw [h]; rfl
theorem take_no {v a n : Int} (h : alB a n = false) : takeV v a n = 0 := by unfold takeV; rw [h]; rfl
theorem put_no {v a n d : Int} (h : alB a n = false) : putV v a n d = 0 := by unfold putV; rw [h]; rfl

theorem Place.all {P : Nat → Nat → Prop} (h01 : P 0 1) (h11 : P 1 1) (h21 : P 2 1) (h31 : P 3 1) (h02 : P 0 2) (h22 : P 2 2) (h04 : P 0 4) {s k : Nat} (hp : Place s k) : P s k := by
  rcases hp with ⟨rfl, rfl | rfl | rfl | rfl⟩ | ⟨rfl, rfl | rfl⟩ | ⟨rfl, rfl⟩ <;> assumption
theorem Place.allI {P : Int → Int → Prop} (h01 : P 0 1) (h11 : P 1 1) (h21 : P 2 1) (h31 : P 3 1) (h02 : P 0 2) (h22 : P 2 2) (h04 : P 0 4) {s k : Nat} (hp : Place s k) : P s k := by
  rcases hp with ⟨rfl, rfl | rfl | rfl | rfl⟩ | ⟨rfl, rfl | rfl⟩ | ⟨rfl, rfl⟩ <;> assumption
theorem mN_bd {s k : Nat} (hp : Place s k) : 1 ≤ mN s k ∧ mN s k ≤ 15 := by
  refine Place.all (P := fun s k => 1 ≤ mN s k ∧ mN s k ≤ 15) ?_ ?_ ?_ ?_ ?_ ?_ ?_ hp <;> decide
theorem maskV_bd (a n : Int) : 0 ≤ maskV a n ∧ maskV a n ≤ 15 := by
  by_cases h : alB a n = true
  · obtain ⟨s, k, hp, hs, hk, _⟩ := place_of h
    rw [mask_at hp hs hk]
    have := mN_bd hp
    omega
  · rw [mask_no (by simpa using h)]; omega

theorem and_one {x : Int} (h0 : 0 ≤ x) (h1 : x < 4294967296) : bits .and .u32 x 1 = x % 2 := by
  rw [u32_and x 1 h0 h1 (by omega) (by omega)]
  obtain ⟨n, rfl⟩ := Int.eq_ofNat_of_zero_le h0
  have := nat_mask1 n
  simp only [Int.toNat_natCast, Int.toNat_one, this]; omega
/-! ### Bits -/
/-- A run of k ones from s on, and what of x stands there. -/
theorem and_run (x s k : Nat) : x &&& ((2 ^ k - 1) * 2 ^ s) = x / 2 ^ s % 2 ^ k * 2 ^ s := by
  apply Nat.eq_of_testBit_eq
  intro i
  rw [Nat.testBit_and, Nat.testBit_mul_two_pow, Nat.testBit_mul_two_pow, Nat.testBit_two_pow_sub_one, Nat.testBit_mod_two_pow, Nat.testBit_div_two_pow]
  by_cases h : s ≤ i
  · have e : i - s + s = i := by omega
    simp only [h, decide_true, Bool.true_and, e]
    rw [Bool.and_comm]
  · simp [h]
theorem andnot_run (x s k n : Nat) (hn : s + k ≤ n) (hx : x < 2 ^ n) : x &&& (2 ^ n - 1 - (2 ^ k - 1) * 2 ^ s) = x / 2 ^ (s + k) * 2 ^ (s + k) + x % 2 ^ s := by
  have hpos : 0 < 2 ^ s := Nat.pow_pos (by decide)
  have hk : 0 < 2 ^ k := Nat.pow_pos (by decide)
  have hsk : 2 ^ s * 2 ^ k = 2 ^ (s + k) := (Nat.pow_add 2 s k).symm
  have hle : 2 ^ (s + k) ≤ 2 ^ n := Nat.pow_le_pow_right (by decide) hn
  have hlt : (2 ^ k - 1) * 2 ^ s < 2 ^ n := by
    have : (2 ^ k - 1) * 2 ^ s < 2 ^ k * 2 ^ s := Nat.mul_lt_mul_of_pos_right (by omega) hpos
    rw [Nat.mul_comm (2 ^ k)] at this
    omega
  have ej : x / 2 ^ (s + k) * 2 ^ (s + k) + x % 2 ^ s = (x / 2 ^ (s + k) * 2 ^ (s + k)) ||| (x % 2 ^ s) := by
    have : x % 2 ^ s < 2 ^ (s + k) := Nat.lt_of_lt_of_le (Nat.mod_lt _ hpos) (Nat.pow_le_pow_right (by decide) (by omega))
    rw [nat_join (s + k) _ _ (Nat.mul_mod_left _ _) this]
  rw [ej]
  apply Nat.eq_of_testBit_eq
  intro i
  rw [Nat.testBit_and, show 2 ^ n - 1 - (2 ^ k - 1) * 2 ^ s = 2 ^ n - ((2 ^ k - 1) * 2 ^ s + 1) by omega, Nat.testBit_two_pow_sub_succ hlt, Nat.testBit_or, Nat.testBit_mul_two_pow, Nat.testBit_mul_two_pow, Nat.testBit_two_pow_sub_one, Nat.testBit_mod_two_pow, Nat.testBit_div_two_pow]
  by_cases h1 : i < s
  · have a1 : ¬ s ≤ i := by omega
    have a2 : ¬ s + k ≤ i := by omega
    have a3 : i < n := by omega
    simp [h1, a1, a2, a3]
  · by_cases h2 : s + k ≤ i
    · have a1 : s ≤ i := by omega
      have a2 : ¬ i - s < k := by omega
      have a3 : i - (s + k) + (s + k) = i := by omega
      simp only [h1, h2, a1, a2, a3, decide_true, decide_false, Bool.true_and, Bool.and_false, Bool.not_false, Bool.and_true, Bool.false_and, Bool.or_false]
      by_cases h3 : i < n
      · simp [h3]
      · have : x.testBit i = false := Nat.testBit_lt_two_pow (Nat.lt_of_lt_of_le hx (Nat.pow_le_pow_right (by decide) (by omega)))
        simp [this]
    · have a1 : s ≤ i := by omega
      have a2 : i - s < k := by omega
      simp [h1, h2, a1, a2]
theorem or_three (x s k m : Nat) (hm : m < 2 ^ k) : (x / 2 ^ (s + k) * 2 ^ (s + k) + x % 2 ^ s) ||| (m * 2 ^ s) = x / 2 ^ (s + k) * 2 ^ (s + k) + m * 2 ^ s + x % 2 ^ s := by
  have hpos : 0 < 2 ^ s := Nat.pow_pos (by decide)
  have hsk : 2 ^ s * 2 ^ k = 2 ^ (s + k) := (Nat.pow_add 2 s k).symm
  have hl : x % 2 ^ s < 2 ^ s := Nat.mod_lt _ hpos
  have h1 : x % 2 ^ s < 2 ^ (s + k) := Nat.lt_of_lt_of_le hl (Nat.pow_le_pow_right (by decide) (by omega))
  have h2 : m * 2 ^ s + x % 2 ^ s < 2 ^ (s + k) := by
    have : m * 2 ^ s + 2 ^ s ≤ 2 ^ k * 2 ^ s := by rw [← Nat.succ_mul]; exact Nat.mul_le_mul_right _ hm
    rw [Nat.mul_comm (2 ^ k)] at this
    omega
  rw [← nat_join (s + k) _ _ (Nat.mul_mod_left _ _) h1, Nat.or_assoc, Nat.or_comm (x % 2 ^ s), nat_join s _ _ (Nat.mul_mod_left _ _) hl, nat_join (s + k) _ _ (Nat.mul_mod_left _ _) h2]
  omega
theorem p256 (s : Nat) : 256 ^ s = 2 ^ (8 * s) := by rw [Nat.pow_mul]
theorem place_le {s k : Nat} (hp : Place s k) : 8 * s + 8 * k ≤ 32 := by unfold Place at hp; omega
theorem shl_mod (x a b : Nat) (h : a + b ≤ 32) : x * 2 ^ a % 4294967296 / 2 ^ a % 2 ^ b = x % 2 ^ b := by
  obtain ⟨c, hc⟩ : ∃ c, 32 = b + c + a := ⟨32 - b - a, by omega⟩
  have e : 4294967296 = 2 ^ (b + c) * 2 ^ a := by rw [← Nat.pow_add, ← hc]
  rw [e, Nat.mul_mod_mul_right, Nat.mul_div_cancel _ (Nat.pow_pos (by decide)), Nat.pow_add, Nat.mod_mul_right_mod]
theorem wide_mask {s k : Nat} (hp : Place s k) : wideV (mN s k) = wN s k := rfl
theorem wN_bd {s k : Nat} : 0 ≤ wN s k ∧ wN s k < 4294967296 := wS_bd _ 4
theorem taken_bits {s k : Nat} (hp : Place s k) {v : Int} (h0 : 0 ≤ v) (h1 : v < 4294967296) : bits .and .u32 v (wN s k) / ((256 ^ s : Nat) : Int) = tN v s k := rfl
theorem put_bits {s k : Nat} (hp : Place s k) {v d : Int} (h0 : 0 ≤ v) (h1 : v < 4294967296) (g0 : 0 ≤ d) :
    bits .or .u32 (bits .andNot .u32 v (wN s k)) (bits .and .u32 (d * ((256 ^ s : Nat) : Int) % 4294967296) (wN s k)) = pN v s k d := rfl
theorem pN_bd {s k : Nat} (hp : Place s k) {v d : Int} (h0 : 0 ≤ v) (h1 : v < 4294967296) : 0 ≤ pN v s k d ∧ pN v s k d < 4294967296 := by
  have hw := wN_bd (s := s) (k := k)
  have h2 := andNot_bd h0 h1 hw.1 hw.2
  have h3 := and_bd (x := d * ((256 ^ s : Nat) : Int) % 4294967296) (by omega) (by omega) hw.1 hw.2
  exact or_bd h2.1 h2.2 h3.1 h3.2
theorem tN_bd {s k : Nat} (hp : Place s k) {v : Int} (h0 : 0 ≤ v) (h1 : v < 4294967296) : 0 ≤ tN v s k ∧ tN v s k < 4294967296 := by
  have hw := wN_bd (s := s) (k := k)
  have h2 := and_bd h0 h1 hw.1 hw.2
  have hp : (0 : Int) < ((256 ^ s : Nat) : Int) := by
    have : 0 < 256 ^ s := Nat.pow_pos (by decide)
    omega
  have e1 := Int.ediv_nonneg h2.1 (Int.le_of_lt hp)
  have e2 := Int.ediv_le_self ((256 ^ s : Nat) : Int) h2.1
  unfold tN
  exact ⟨e1, Int.lt_of_le_of_lt e2 h2.2⟩
end Go.Proofs.YtknhgfofmkpnfaaGreat.Lane
/- Contracts of package lane's small functions: lane, shift, multiple, aligned, mask, Wide. -/
namespace Go.Proofs.YtknhgfofmkpnfaaGreat.Lane
open Go.RowKit
set_option linter.unusedVariables false
set_option linter.unusedSectionVars false
variable [Inhabited OTab]

theorem ret_bool {x y : Bool} (h : x = y) : Ending.returned (.bool x) = .returned (.bool y) := by rw [h]
theorem ret_int {k : IntKind} {a b : Int} (h : a = b) : Ending.returned (.int k a) = .returned (.int k b) := by rw [h]

theorem lane_val (a : Int) (s : Nat) (w : World) (ha : 0 ≤ a) (ha' : a < 4294967296) (hs : a % 4 = s) :
    Calls Tryz.prog 184 #[.int .u32 a] w fun e w' => e = .returned (.int .u64 s) ∧ w = w' := by
  go_enter Tryz.func184, Tryz.ntmps184
  go_wp2
  go_ret
  exact ⟨ret_int (by omega), rfl⟩

theorem shift_val (a : Int) (s : Nat) (w : World) (ha : 0 ≤ a) (ha' : a < 4294967296) (hs : a % 4 = s) :
    Calls Tryz.prog 179 #[.int .u32 a] w fun e w' => e = .returned (.int .u64 (8 * s : Nat)) ∧ w = w' := by
  have hs4 : s < 4 := by omega
  go_enter Tryz.func179, Tryz.ntmps179
  go_wp2_with (go_at_call 184; refine (lane_val a s _ ha ha' hs).mono ?_; rintro e w' ⟨rfl, rfl⟩)
  go_ret
  exact ⟨ret_int (by omega), rfl⟩

theorem multiple_any (a n : Int) (b : Bool) (w : World) (ha : 0 ≤ a) (ha' : a < 4294967296) (hn : n = 1 ∨ n = 2 ∨ n = 4) (hb : decide (a % n = 0) = b) :
    Calls Tryz.prog 181 #[.int .u32 a, .int .i64 n] w fun e w' => e = .returned (.bool b) ∧ w = w' := by
  subst hb
  rcases hn with rfl | rfl | rfl
  · go_enter Tryz.func181, Tryz.ntmps181
    go_wp2
    go_ret
    exact ⟨ret_bool (by rw [Bool.eq_iff_iff]; simp), rfl⟩
  · go_enter Tryz.func181, Tryz.ntmps181
    go_wp2
    go_ret
    exact ⟨ret_bool (by rw [Bool.eq_iff_iff]; simp), rfl⟩
  · go_enter Tryz.func181, Tryz.ntmps181
    go_wp2
    go_ret
    exact ⟨ret_bool (by rw [Bool.eq_iff_iff]; simp), rfl⟩

theorem size_val (n : Int) (b : Bool) (w : World) (hb : Word.sizeB n = b) :
    Calls Tryz.prog 180 #[.int .i64 n] w fun e w' => e = .returned (.bool b) ∧ w = w' := by
  subst hb; exact Word.size_any n w

theorem at_any (a n : Int) (w : World) :
    Calls Tryz.prog 173 #[.int .u32 a, .int .i64 n] w fun e w' => e = .returned (.agg #[.int .u32 a, .int .i64 n]) ∧ Below w.heap.size w w' := by
  go_enter Tryz.func173, Tryz.ntmps173
  go_wp2
  refine bodyPost_ret (v := .agg #[.int .u32 a, .int .i64 n]) ?_ rfl ⟨rfl, (Below.refl _ _).alloc (Nat.le_refl _) _⟩
  simp [results, Tryz.results173, go_sem]

theorem aligned_any (a n : Int) (b : Bool) (w : World) (ha : 0 ≤ a) (ha' : a < 4294967296) (hb : alB a n = b) :
    Calls Tryz.prog 177 #[.agg #[.int .u32 a, .int .i64 n]] w fun e w' => e = .returned (.bool b) ∧ Below w.heap.size w w' := by
  by_cases hs : Word.sizeB n = true
  · obtain ⟨m, hm⟩ : ∃ m, decide (a % n = 0) = m := ⟨_, rfl⟩
    have hn := Word.sizeB_yes hs
    have e : b = m := by rw [← hb, ← hm]; unfold alB; rw [hs]; simp
    subst e
    clear hb
    go_enter Tryz.func177, Tryz.ntmps177
    go_wp2_with (first | (go_at_call 180; refine (size_val n true _ hs).mono ?_; rintro e w' ⟨rfl, rfl⟩) | (go_at_call 181; refine (multiple_any a n b _ ha ha' hn hm).mono ?_; rintro e w' ⟨rfl, rfl⟩))
    go_ret
    exact ⟨rfl, (Below.refl _ _).alloc (Nat.le_refl _) _⟩
  · have hs' : Word.sizeB n = false := by simpa using hs
    have e : b = false := by rw [← hb]; unfold alB; rw [hs']; rfl
    subst e
    clear hb
    go_enter Tryz.func177, Tryz.ntmps177
    go_wp2_with (go_at_call 180; refine (size_val n false _ hs').mono ?_; rintro e w' ⟨rfl, rfl⟩)
    go_ret
    exact ⟨rfl, (Below.refl _ _).alloc (Nat.le_refl _) _⟩

/-- A place in a block. -/
theorem alloc_keep {w : World} {a : Addr} {v : Value} (h : w.cell? a = some v) (o : Obj) : (w.alloc o).cell? a = some v := cell_keep ((Below.refl _ _).alloc (Nat.le_refl _) o) h
theorem place_new (w : World) (a n : Int) (t : TypeId) : (w.alloc (.cells #[.int .u32 a, .int .i64 n] t)).cell? ⟨w.heap.size, 0, none⟩ = some (.int .u32 a) ∧ (w.alloc (.cells #[.int .u32 a, .int .i64 n] t)).cell? ⟨w.heap.size, 1, none⟩ = some (.int .i64 n) :=
  ⟨World.cell?_alloc_at _ _ _ 0 rfl, World.cell?_alloc_at _ _ _ 1 rfl⟩
/-- The mask of a place, drawn. -/
theorem mask_val {s k : Nat} (hp : Place s k) (a n : Int) (w : World) (ha : 0 ≤ a) (ha' : a < 4294967296) (hs : a % 4 = s) (hk : n = k) :
    Calls Tryz.prog 183 #[.agg #[.int .u32 a, .int .i64 n]] w fun e w' => e = .returned (.int .u32 (mN s k)) ∧ Below w.heap.size w w' := by
  obtain ⟨x, hx⟩ : ∃ x, mN s k = x := ⟨_, rfl⟩
  obtain ⟨y, hy⟩ : ∃ y : Int, y = s := ⟨_, rfl⟩
  rw [hx]
  subst hk
  have L := fun w => lane_val a s w ha ha' hs
  rw [← hy] at L hs
  have key : ∀ y z : Int, y = s → z = k → (∀ w, Calls Tryz.prog 184 #[.int .u32 a] w fun e w' => e = .returned (.int .u64 y) ∧ w = w') →
      Calls Tryz.prog 183 #[.agg #[.int .u32 a, .int .i64 z]] w fun e w' => e = .returned (.int .u32 x) ∧ Below w.heap.size w w' := by
    subst hx
    clear L hs hy y
    refine Place.all (P := fun s k => ∀ y z : Int, y = s → z = k → (∀ w, Calls Tryz.prog 184 #[.int .u32 a] w fun e w' => e = .returned (.int .u64 y) ∧ w = w') →
      Calls Tryz.prog 183 #[.agg #[.int .u32 a, .int .i64 z]] w fun e w' => e = .returned (.int .u32 (mN s k)) ∧ Below w.heap.size w w') ?_ ?_ ?_ ?_ ?_ ?_ ?_ hp
    all_goals
      intro y z hy hz L
      have cs := place_new w a z 247
      simp only [Int.cast_ofNat_Int] at hy hz
      subst hy
      subst hz
      go_enter Tryz.func183, Tryz.ntmps183
      go_wp2_with fail
      refine wp_region_ext (by kernel_rfl) (by kernel_rfl) ?_
      intro W hW
      have B : Below w.heap.size w W := by rw [hW.out]; exact (Below.refl _ _).alloc (Nat.le_refl _) _
      rw [← hW.out] at cs
      have c0 := ext_cell cs.1
      have c1 := ext_cell cs.2
      have HbW := Lib.hid B
      clear cs B
      repeat (go_big_quiet_step ((go_at_call 184; exact ext_same (L _))))
      refine wpQuiet_nil ?_
      intro w' hw'
      obtain ⟨p, rfl⟩ := hw'
      go_wp2_with fail
      go_ret
      exact ⟨rfl, HbW.out.trans ((ext_below W p).mono HbW.out.size)⟩
  exact key y k hy rfl L

/-- The package's table of wide lanes holds them. -/
def Tab (w : World) : Prop := ∀ i : Nat, i < 4 → w.cell? ⟨0, i, none⟩ = some (.int .u32 (tabT i))
theorem Tab.below {w w' : World} (h : Tab w) (hb : Below w.heap.size w w') : Tab w' := fun i hi => by
  have c := h i hi
  rw [hb.cell (World.block_lt_of_cell? w _ c)]
  exact c

theorem Wide_any (m : Int) (w : World) (hm : 0 ≤ m) (hm' : m < 4294967296) (ht : Tab w) :
    Calls Tryz.prog 182 #[.int .u32 m] w fun e w' => e = .returned (.int .u32 (wideV m)) ∧ w = w' := by
  have H := Lib.hid ht
  clear ht
  go_enter Tryz.func182, Tryz.ntmps182
  go_wp2
  go_loop [3, 5] (fun x i => ∃ k : Nat, k ≤ 4 ∧ i = .int .i64 k ∧ x = .int .u32 (wS m k) ∧ 0 ≤ wS m k ∧ wS m k < 4294967296) (fun _ i => 4 - (intOf i).toNat)
  case atStart => exact ⟨0, by omega, rfl, rfl, by simp [wS], by simp [wS]⟩
  case round =>
    obtain ⟨k, hk, rfl, rfl, hb0, hb1⟩ := hrel
    by_cases hlt : k < 4
    · have c1 := H.out k hlt
      go_wp2
      · rename_i hc
        have e1 : wS m (k + 1) = bits .or .u32 (wS m k) (tabT k) := by rw [wS, if_pos hc]
        have e2 := wS_bd m (k + 1)
        exact ⟨⟨k + 1, by omega, by go_num, by rw [e1], e2.1, e2.2⟩, by simp [intOf]; omega⟩
      · rename_i hc
        have e1 : wS m (k + 1) = wS m k := by rw [wS, if_neg (by rw [hc]; simp)]
        have e2 := wS_bd m (k + 1)
        exact ⟨⟨k + 1, by omega, by go_num, by rw [e1], e2.1, e2.2⟩, by simp [intOf]; omega⟩
    · obtain rfl : k = 4 := by omega
      go_wp2
      go_ret
      exact ⟨rfl, rfl⟩

theorem Wide_val (m x : Int) (w : World) (hm : 0 ≤ m) (hm' : m < 4294967296) (ht : Tab w) (hx : wideV m = x) :
    Calls Tryz.prog 182 #[.int .u32 m] w fun e w' => e = .returned (.int .u32 x) ∧ w = w' := by
  subst hx; exact Wide_any m w hm hm' ht
end Go.Proofs.YtknhgfofmkpnfaaGreat.Lane
/- Contracts of package lane: what is asked of a place at work; what is told; Aligned, Mask, Take, Put. -/
namespace Go.Proofs.YtknhgfofmkpnfaaGreat.Lane
open Go.RowKit
set_option linter.unusedVariables false
set_option linter.unusedSectionVars false
variable [Inhabited OTab]

theorem wide_val {s k : Nat} (hp : Place s k) (a n x : Int) (w : World) (ha : 0 ≤ a) (ha' : a < 4294967296) (hs : a % 4 = s) (hk : n = k) (ht : Tab w) (hx : wN s k = x) :
    Calls Tryz.prog 178 #[.agg #[.int .u32 a, .int .i64 n]] w fun e w' => e = .returned (.int .u32 x) ∧ Below w.heap.size w w' := by
  have hb0 := (mN_bd hp).1
  have hb1 := (mN_bd hp).2
  have hw := wide_mask hp
  rw [hx] at hw
  have L := fun w => mask_val hp a n w ha ha' hs hk
  obtain ⟨m, hm⟩ : ∃ m, mN s k = m := ⟨_, rfl⟩
  rw [hm] at hb0 hb1 hw L
  clear hx hm hs hk hp
  have H := Lib.hid ht
  clear ht
  go_enter Tryz.func178, Tryz.ntmps178
  go_wp2_with fail
  refine (L _).mono ?_
  rintro e w1 ⟨rfl, hb⟩
  have Hb := Lib.hid (((Below.refl w.heap.size w).alloc (Nat.le_refl _) _).trans (hb.mono (by simp)))
  clear hb
  have T1 := Lib.hid (H.out.below Hb.out)
  go_wp2_with fail
  refine (Wide_val m x _ (by omega) (by omega) T1.out hw).mono ?_
  rintro e w2 ⟨rfl, rfl⟩
  go_wp2_with fail
  go_ret
  exact ⟨rfl, Hb.out⟩

/-- A cell in a block. -/
structure Cl (w : World) (b : Nat) (a n v d : Int) : Prop where
  c0 : w.cell? ⟨b, 0, none⟩ = some (.int .u32 a)
  c1 : w.cell? ⟨b, 1, none⟩ = some (.int .i64 n)
  c2 : w.cell? ⟨b, 2, none⟩ = some (.int .u32 v)
  c3 : w.cell? ⟨b, 3, none⟩ = some (.int .u32 d)
theorem cl_new (w : World) (a n v d : Int) (t : TypeId) : Cl (w.alloc (.cells #[.int .u32 a, .int .i64 n, .int .u32 v, .int .u32 d] t)) w.heap.size a n v d :=
  ⟨World.cell?_alloc_at _ _ _ 0 rfl, World.cell?_alloc_at _ _ _ 1 rfl, World.cell?_alloc_at _ _ _ 2 rfl, World.cell?_alloc_at _ _ _ 3 rfl⟩

set_option maxHeartbeats 400000 in
theorem taken_val {s k : Nat} (hp : Place s k) (a n v d : Int) (w : World) (ha : 0 ≤ a) (ha' : a < 4294967296) (hv : 0 ≤ v) (hv' : v < 4294967296) (hs : a % 4 = s) (hk : n = k) (ht : Tab w) :
    Calls Tryz.prog 175 #[.agg #[.int .u32 a, .int .i64 n, .int .u32 v, .int .u32 d]] w fun e w' => e = .returned (.int .u32 (tN v s k)) ∧ Below w.heap.size w w' := by
  have key := taken_bits hp hv hv'
  have W1 := fun w ht => wide_val hp a n _ w ha ha' hs hk ht rfl
  have S1 := fun w => shift_val a s w ha ha' hs
  have hs4 : s < 4 := by omega
  obtain ⟨x, hx⟩ : ∃ x, wN s k = x := ⟨_, rfl⟩
  rw [hx] at key W1
  clear hx hs hk hp
  have H := Lib.hid ht
  clear ht
  go_enter Tryz.func175, Tryz.ntmps175
  go_wp2_with fail
  refine wp_region_ext (by kernel_rfl) (by kernel_rfl) ?_
  intro W hW
  have B : Below w.heap.size w W := by rw [hW.out]; exact (Below.refl _ _).alloc (Nat.le_refl _) _
  have cs := cl_new w a n v d 250
  rw [← hW.out] at cs
  have c0 := ext_cell cs.c0
  have c1 := ext_cell cs.c1
  have c2 := ext_cell cs.c2
  have T1 : Hid (∀ p, Tab (ext W p)) := fun p => H.out.below (B.trans ((ext_below W p).mono B.size))
  have HbW := Lib.hid B
  clear cs B
  repeat (go_big_quiet_step ((first | (go_at_call 178; exact ext_of (W1 _ (T1.out _))) | (go_at_call 179; exact ext_same (S1 _)))))
  refine wpQuiet_nil ?_
  intro w' hw'
  obtain ⟨p, rfl⟩ := hw'
  go_wp2_with fail
  go_ret
  exact ⟨ret_int (by rw [← key, p256]; simp), HbW.out.trans ((ext_below W p).mono HbW.out.size)⟩

set_option maxHeartbeats 400000 in
theorem cput_val {s k : Nat} (hp : Place s k) (a n v d : Int) (w : World) (ha : 0 ≤ a) (ha' : a < 4294967296) (hv : 0 ≤ v) (hv' : v < 4294967296) (hd : 0 ≤ d) (hs : a % 4 = s) (hk : n = k) (ht : Tab w) :
    Calls Tryz.prog 176 #[.agg #[.int .u32 a, .int .i64 n, .int .u32 v, .int .u32 d]] w fun e w' => e = .returned (.int .u32 (pN v s k d)) ∧ Below w.heap.size w w' := by
  have key := put_bits hp hv hv' hd
  have W1 := fun w ht => wide_val hp a n _ w ha ha' hs hk ht rfl
  have S1 := fun w => shift_val a s w ha ha' hs
  have hs4 : s < 4 := by omega
  obtain ⟨x, hx⟩ : ∃ x, wN s k = x := ⟨_, rfl⟩
  rw [hx] at key W1
  clear hx hs hk hp
  have H := Lib.hid ht
  clear ht
  go_enter Tryz.func176, Tryz.ntmps176
  go_wp2_with fail
  refine wp_region_ext (by kernel_rfl) (by kernel_rfl) ?_
  intro W hW
  have B : Below w.heap.size w W := by rw [hW.out]; exact (Below.refl _ _).alloc (Nat.le_refl _) _
  have cs := cl_new w a n v d 250
  rw [← hW.out] at cs
  have c0 := ext_cell cs.c0
  have c1 := ext_cell cs.c1
  have c2 := ext_cell cs.c2
  have c3 := ext_cell cs.c3
  have T1 : Hid (∀ p, Tab (ext W p)) := fun p => H.out.below (B.trans ((ext_below W p).mono B.size))
  have HbW := Lib.hid B
  clear cs B
  repeat (go_big_quiet_step ((first | (go_at_call 178; exact ext_of (W1 _ (T1.out _))) | (go_at_call 179; exact ext_same (S1 _)))))
  refine wpQuiet_nil ?_
  intro w' hw'
  obtain ⟨p, rfl⟩ := hw'
  go_wp2_with fail
  go_ret
  exact ⟨ret_int (by rw [← key, p256]; simp), HbW.out.trans ((ext_below W p).mono HbW.out.size)⟩

theorem told_mask (a n x : Int) (w : World) (ha : 0 ≤ a) (ha' : a < 4294967296) (h : alB a n = true) (ht : Tab w)
    (L : ∀ w, Tab w → Calls Tryz.prog 183 #[.agg #[.int .u32 a, .int .i64 n]] w fun e w' => e = .returned (.int .u32 x) ∧ Below w.heap.size w w') :
    Calls Tryz.prog 174 #[.agg #[.int .u32 a, .int .i64 n], .func (.func 183) #[.agg #[.int .u32 a, .int .i64 n]] #[]] w fun e w' => e = .returned (.tuple #[.int .u32 x, .bool true]) ∧ Below w.heap.size w w' := by
  have H := Lib.hid ht
  have Al := fun w => aligned_any a n true w ha ha' h
  clear ht h
  go_enter Tryz.func174, Tryz.ntmps174
  go_wp2_with fail
  refine (Al _).mono ?_
  rintro e w1 ⟨rfl, hb⟩
  have Hb := Lib.hid (((Below.refl w.heap.size w).alloc (Nat.le_refl _) _).trans (hb.mono (by simp)))
  clear hb
  have T1 := Lib.hid (H.out.below Hb.out)
  go_wp2_with fail
  refine (L _ T1.out).mono ?_
  rintro e w2 ⟨rfl, hb⟩
  have Hb2 := Lib.hid (Hb.out.trans (hb.mono Hb.out.size))
  clear hb
  go_wp2_with fail
  go_ret2
  exact ⟨rfl, Hb2.out⟩
theorem told_mask_no (a n : Int) (w : World) (ha : 0 ≤ a) (ha' : a < 4294967296) (h : alB a n = false) :
    Calls Tryz.prog 174 #[.agg #[.int .u32 a, .int .i64 n], .func (.func 183) #[.agg #[.int .u32 a, .int .i64 n]] #[]] w fun e w' => e = .returned (.tuple #[.int .u32 0, .bool false]) ∧ Below w.heap.size w w' := by
  have Al := fun w => aligned_any a n false w ha ha' h
  clear h
  go_enter Tryz.func174, Tryz.ntmps174
  go_wp2_with fail
  refine (Al _).mono ?_
  rintro e w1 ⟨rfl, hb⟩
  have Hb := Lib.hid (((Below.refl w.heap.size w).alloc (Nat.le_refl _) _).trans (hb.mono (by simp)))
  clear hb
  go_wp2_with fail
  go_ret2
  exact ⟨rfl, Hb.out⟩

theorem told_taken (a n x : Int) (v d : Int) (w : World) (ha : 0 ≤ a) (ha' : a < 4294967296) (h : alB a n = true) (ht : Tab w)
    (L : ∀ w, Tab w → Calls Tryz.prog 175 #[.agg #[.int .u32 a, .int .i64 n, .int .u32 v, .int .u32 d]] w fun e w' => e = .returned (.int .u32 x) ∧ Below w.heap.size w w') :
    Calls Tryz.prog 174 #[.agg #[.int .u32 a, .int .i64 n], .func (.func 175) #[.agg #[.int .u32 a, .int .i64 n, .int .u32 v, .int .u32 d]] #[]] w fun e w' => e = .returned (.tuple #[.int .u32 x, .bool true]) ∧ Below w.heap.size w w' := by
  have H := Lib.hid ht
  have Al := fun w => aligned_any a n true w ha ha' h
  clear ht h
  go_enter Tryz.func174, Tryz.ntmps174
  go_wp2_with fail
  refine (Al _).mono ?_
  rintro e w1 ⟨rfl, hb⟩
  have Hb := Lib.hid (((Below.refl w.heap.size w).alloc (Nat.le_refl _) _).trans (hb.mono (by simp)))
  clear hb
  have T1 := Lib.hid (H.out.below Hb.out)
  go_wp2_with fail
  refine (L _ T1.out).mono ?_
  rintro e w2 ⟨rfl, hb⟩
  have Hb2 := Lib.hid (Hb.out.trans (hb.mono Hb.out.size))
  clear hb
  go_wp2_with fail
  go_ret2
  exact ⟨rfl, Hb2.out⟩
theorem told_taken_no (a n : Int) (v d : Int) (w : World) (ha : 0 ≤ a) (ha' : a < 4294967296) (h : alB a n = false) :
    Calls Tryz.prog 174 #[.agg #[.int .u32 a, .int .i64 n], .func (.func 175) #[.agg #[.int .u32 a, .int .i64 n, .int .u32 v, .int .u32 d]] #[]] w fun e w' => e = .returned (.tuple #[.int .u32 0, .bool false]) ∧ Below w.heap.size w w' := by
  have Al := fun w => aligned_any a n false w ha ha' h
  clear h
  go_enter Tryz.func174, Tryz.ntmps174
  go_wp2_with fail
  refine (Al _).mono ?_
  rintro e w1 ⟨rfl, hb⟩
  have Hb := Lib.hid (((Below.refl w.heap.size w).alloc (Nat.le_refl _) _).trans (hb.mono (by simp)))
  clear hb
  go_wp2_with fail
  go_ret2
  exact ⟨rfl, Hb.out⟩

theorem told_put (a n x : Int) (v d : Int) (w : World) (ha : 0 ≤ a) (ha' : a < 4294967296) (h : alB a n = true) (ht : Tab w)
    (L : ∀ w, Tab w → Calls Tryz.prog 176 #[.agg #[.int .u32 a, .int .i64 n, .int .u32 v, .int .u32 d]] w fun e w' => e = .returned (.int .u32 x) ∧ Below w.heap.size w w') :
    Calls Tryz.prog 174 #[.agg #[.int .u32 a, .int .i64 n], .func (.func 176) #[.agg #[.int .u32 a, .int .i64 n, .int .u32 v, .int .u32 d]] #[]] w fun e w' => e = .returned (.tuple #[.int .u32 x, .bool true]) ∧ Below w.heap.size w w' := by
  have H := Lib.hid ht
  have Al := fun w => aligned_any a n true w ha ha' h
  clear ht h
  go_enter Tryz.func174, Tryz.ntmps174
  go_wp2_with fail
  refine (Al _).mono ?_
  rintro e w1 ⟨rfl, hb⟩
  have Hb := Lib.hid (((Below.refl w.heap.size w).alloc (Nat.le_refl _) _).trans (hb.mono (by simp)))
  clear hb
  have T1 := Lib.hid (H.out.below Hb.out)
  go_wp2_with fail
  refine (L _ T1.out).mono ?_
  rintro e w2 ⟨rfl, hb⟩
  have Hb2 := Lib.hid (Hb.out.trans (hb.mono Hb.out.size))
  clear hb
  go_wp2_with fail
  go_ret2
  exact ⟨rfl, Hb2.out⟩
theorem told_put_no (a n : Int) (v d : Int) (w : World) (ha : 0 ≤ a) (ha' : a < 4294967296) (h : alB a n = false) :
    Calls Tryz.prog 174 #[.agg #[.int .u32 a, .int .i64 n], .func (.func 176) #[.agg #[.int .u32 a, .int .i64 n, .int .u32 v, .int .u32 d]] #[]] w fun e w' => e = .returned (.tuple #[.int .u32 0, .bool false]) ∧ Below w.heap.size w w' := by
  have Al := fun w => aligned_any a n false w ha ha' h
  clear h
  go_enter Tryz.func174, Tryz.ntmps174
  go_wp2_with fail
  refine (Al _).mono ?_
  rintro e w1 ⟨rfl, hb⟩
  have Hb := Lib.hid (((Below.refl w.heap.size w).alloc (Nat.le_refl _) _).trans (hb.mono (by simp)))
  clear hb
  go_wp2_with fail
  go_ret2
  exact ⟨rfl, Hb.out⟩

end Go.Proofs.YtknhgfofmkpnfaaGreat.Lane
/- Contracts of package lane's functions: Mask, Take, Put. -/
namespace Go.Proofs.YtknhgfofmkpnfaaGreat.Lane
open Go.RowKit
set_option linter.unusedVariables false
set_option linter.unusedSectionVars false
variable [Inhabited OTab]

theorem Take_yes (a n v : Int) (x : Int) (w : World) (ha : 0 ≤ a) (ha' : a < 4294967296) (hv : 0 ≤ v) (hv' : v < 4294967296) (h : alB a n = true) (ht : Tab w) (hx : takeV v a n = x) :
    Calls Tryz.prog 169 #[.int .u32 v, .int .u32 a, .int .i64 n] w fun e w' => e = .returned (.tuple #[.int .u32 x, .bool true]) ∧ Below w.heap.size w w' := by
  have hmf : ∀ (fn : Fn) (first cap : Array Value) (w : World), (Instr.makeFunc fn first cap).run Tryz.prog w = .ok (.func fn first cap) w := fun _ _ _ _ => rfl
  have T : ∀ w, Tab w → Calls Tryz.prog 174 #[.agg #[.int .u32 a, .int .i64 n], .func (.func 175) #[.agg #[.int .u32 a, .int .i64 n, .int .u32 v, .int .u32 0]] #[]] w fun e w' => e = .returned (.tuple #[.int .u32 x, .bool true]) ∧ Below w.heap.size w w' := by
    intro w ht
    obtain ⟨s, k, hp, hs, hk, _⟩ := place_of h
    refine told_taken a n x v 0 w ha ha' h ht fun w ht => ?_
    rw [← hx, take_at hp hs hk]
    exact taken_val hp a n v 0 w ha ha' hv hv' hs hk ht
  have H := Lib.hid ht
  clear h ht hx
  go_enter Tryz.func169, Tryz.ntmps169
  go_wp2_with fail
  refine (at_any a n _).mono ?_
  rintro e w1 ⟨rfl, hb⟩
  have Hb := Lib.hid hb
  clear hb
  have T1 := Lib.hid (H.out.below (Hb.out.alloc Hb.out.size (.cells #[.int .u32 a, .int .i64 n, .int .u32 v, .int .u32 0] 250)))
  go_wp2_with fail
  refine (T _ T1.out).mono ?_
  rintro e w2 ⟨rfl, hb⟩
  have Hb2 := Lib.hid ((Hb.out.alloc Hb.out.size _).trans (hb.mono (Hb.out.alloc Hb.out.size _).size))
  clear hb
  go_wp2_with fail
  go_ret2
  exact ⟨rfl, Hb2.out⟩
theorem Take_no (a n v : Int) (w : World) (ha : 0 ≤ a) (ha' : a < 4294967296) (h : alB a n = false) :
    Calls Tryz.prog 169 #[.int .u32 v, .int .u32 a, .int .i64 n] w fun e w' => e = .returned (.tuple #[.int .u32 0, .bool false]) ∧ Below w.heap.size w w' := by
  have hmf : ∀ (fn : Fn) (first cap : Array Value) (w : World), (Instr.makeFunc fn first cap).run Tryz.prog w = .ok (.func fn first cap) w := fun _ _ _ _ => rfl
  have T := fun w => told_taken_no a n v 0 w ha ha' h
  clear h
  go_enter Tryz.func169, Tryz.ntmps169
  go_wp2_with fail
  refine (at_any a n _).mono ?_
  rintro e w1 ⟨rfl, hb⟩
  have Hb := Lib.hid hb
  clear hb
  go_wp2_with fail
  refine (T _).mono ?_
  rintro e w2 ⟨rfl, hb⟩
  have Hb2 := Lib.hid ((Hb.out.alloc Hb.out.size _).trans (hb.mono (Hb.out.alloc Hb.out.size _).size))
  clear hb
  go_wp2_with fail
  go_ret2
  exact ⟨rfl, Hb2.out⟩
theorem Take_any (a n v x : Int) (b : Bool) (w : World) (ha : 0 ≤ a) (ha' : a < 4294967296) (hv : 0 ≤ v) (hv' : v < 4294967296) (ht : Tab w) (hx : takeV v a n = x) (hb : alB a n = b) :
    Calls Tryz.prog 169 #[.int .u32 v, .int .u32 a, .int .i64 n] w fun e w' => e = .returned (.tuple #[.int .u32 x, .bool b]) ∧ Below w.heap.size w w' := by
  subst hb
  by_cases h : alB a n = true
  · rw [h]
    exact Take_yes a n v x w ha ha' hv hv' h ht hx
  · have h' : alB a n = false := by simpa using h
    rw [h', ← hx, take_no h']
    exact Take_no a n v w ha ha' h'

theorem Put_yes (a n v d : Int) (x : Int) (w : World) (ha : 0 ≤ a) (ha' : a < 4294967296) (hv : 0 ≤ v) (hv' : v < 4294967296) (hd : 0 ≤ d) (h : alB a n = true) (ht : Tab w) (hx : putV v a n d = x) :
    Calls Tryz.prog 171 #[.int .u32 v, .int .u32 a, .int .i64 n, .int .u32 d] w fun e w' => e = .returned (.tuple #[.int .u32 x, .bool true]) ∧ Below w.heap.size w w' := by
  have hmf : ∀ (fn : Fn) (first cap : Array Value) (w : World), (Instr.makeFunc fn first cap).run Tryz.prog w = .ok (.func fn first cap) w := fun _ _ _ _ => rfl
  have T : ∀ w, Tab w → Calls Tryz.prog 174 #[.agg #[.int .u32 a, .int .i64 n], .func (.func 176) #[.agg #[.int .u32 a, .int .i64 n, .int .u32 v, .int .u32 d]] #[]] w fun e w' => e = .returned (.tuple #[.int .u32 x, .bool true]) ∧ Below w.heap.size w w' := by
    intro w ht
    obtain ⟨s, k, hp, hs, hk, _⟩ := place_of h
    refine told_put a n x v d w ha ha' h ht fun w ht => ?_
    rw [← hx, put_at hp hs hk]
    exact cput_val hp a n v d w ha ha' hv hv' hd hs hk ht
  have H := Lib.hid ht
  clear h ht hx
  go_enter Tryz.func171, Tryz.ntmps171
  go_wp2_with fail
  refine (at_any a n _).mono ?_
  rintro e w1 ⟨rfl, hb⟩
  have Hb := Lib.hid hb
  clear hb
  have T1 := Lib.hid (H.out.below (Hb.out.alloc Hb.out.size (.cells #[.int .u32 a, .int .i64 n, .int .u32 v, .int .u32 d] 250)))
  go_wp2_with fail
  refine (T _ T1.out).mono ?_
  rintro e w2 ⟨rfl, hb⟩
  have Hb2 := Lib.hid ((Hb.out.alloc Hb.out.size _).trans (hb.mono (Hb.out.alloc Hb.out.size _).size))
  clear hb
  go_wp2_with fail
  go_ret2
  exact ⟨rfl, Hb2.out⟩
theorem Put_no (a n v d : Int) (w : World) (ha : 0 ≤ a) (ha' : a < 4294967296) (h : alB a n = false) :
    Calls Tryz.prog 171 #[.int .u32 v, .int .u32 a, .int .i64 n, .int .u32 d] w fun e w' => e = .returned (.tuple #[.int .u32 0, .bool false]) ∧ Below w.heap.size w w' := by
  have hmf : ∀ (fn : Fn) (first cap : Array Value) (w : World), (Instr.makeFunc fn first cap).run Tryz.prog w = .ok (.func fn first cap) w := fun _ _ _ _ => rfl
  have T := fun w => told_put_no a n v d w ha ha' h
  clear h
  go_enter Tryz.func171, Tryz.ntmps171
  go_wp2_with fail
  refine (at_any a n _).mono ?_
  rintro e w1 ⟨rfl, hb⟩
  have Hb := Lib.hid hb
  clear hb
  go_wp2_with fail
  refine (T _).mono ?_
  rintro e w2 ⟨rfl, hb⟩
  have Hb2 := Lib.hid ((Hb.out.alloc Hb.out.size _).trans (hb.mono (Hb.out.alloc Hb.out.size _).size))
  clear hb
  go_wp2_with fail
  go_ret2
  exact ⟨rfl, Hb2.out⟩
theorem Put_any (a n v d x : Int) (b : Bool) (w : World) (ha : 0 ≤ a) (ha' : a < 4294967296) (hv : 0 ≤ v) (hv' : v < 4294967296) (hd : 0 ≤ d) (ht : Tab w) (hx : putV v a n d = x) (hb : alB a n = b) :
    Calls Tryz.prog 171 #[.int .u32 v, .int .u32 a, .int .i64 n, .int .u32 d] w fun e w' => e = .returned (.tuple #[.int .u32 x, .bool b]) ∧ Below w.heap.size w w' := by
  subst hb
  by_cases h : alB a n = true
  · rw [h]
    exact Put_yes a n v d x w ha ha' hv hv' hd h ht hx
  · have h' : alB a n = false := by simpa using h
    rw [h', ← hx, put_no h']
    exact Put_no a n v d w ha ha' h'
end Go.Proofs.YtknhgfofmkpnfaaGreat.Lane
