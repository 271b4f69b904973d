/- Contracts of the small functions of package reach and of the document's: right, wrong, has, both, meets, Right, Has, Size, Of. -/
import Derived.Test.YtploggfaihfeeaaProg
import Derived.WalkKit
import Derived.WalkLawsBesides
import Derived.Handy
import Derived.Outline
import Derived.Below
import Derived.Lib.Hide
namespace Go.Proofs.Ytploggfaihfeeaa.Reach
open Go.RowKit

theorem ret_bool {x y : Bool} (h : x = y) : Ending.returned (.bool x) = .returned (.bool y) := by rw [h]
theorem ret_int {k : IntKind} {a b : Int} (h : a = b) : Ending.returned (.int k a) = .returned (.int k b) := by rw [h]
theorem ret_reach {a b c d : Int} (h : a = b) (g : c = d) : Ending.returned (.agg #[.int .u32 a, .int .u32 c]) = .returned (.agg #[.int .u32 b, .int .u32 d]) := by rw [h, g]

/-- Is a reach right? -/
def rightB (f t : Int) : Bool := decide (f ≤ t)
/-- Has it an address? -/
def hasB (f t a : Int) : Bool := decide (f ≤ a ∧ a ≤ t)
/-- How many has it? -/
def sizeV (f t : Int) : Int := if f ≤ t then t - f + 1 else 0
/-- Is there one of n addresses from a on? Its ends. -/
def ofB (a n : Int) : Bool := decide (1 ≤ n ∧ a + n ≤ 4294967296)
def ofF (a n : Int) : Int := if 1 ≤ n ∧ a + n ≤ 4294967296 then a else 0
def ofT (a n : Int) : Int := if 1 ≤ n ∧ a + n ≤ 4294967296 then a + n - 1 else 0

theorem right_any (f t : Int) (w : World) :
    Calls Try.prog 36 #[.agg #[.int .u32 f, .int .u32 t]] w fun e w' => e = .returned (.bool (rightB f t)) ∧ Below w.heap.size w w' := by
  go_enter Try.func36, Try.ntmps36
  go_wp2
  go_ret
  exact ⟨rfl, (Below.refl _ _).alloc (Nat.le_refl _) _⟩

theorem rright_any (f t : Int) (w : World) :
    Calls Try.prog 31 #[.agg #[.int .u32 f, .int .u32 t]] w fun e w' => e = .returned (.bool (rightB f t)) ∧ Below w.heap.size w w' := by
  go_enter Try.func31, Try.ntmps31
  go_wp2
  go_ret
  exact ⟨rfl, (Below.refl _ _).alloc (Nat.le_refl _) _⟩

theorem has_any (f t a : Int) (w : World) :
    Calls Try.prog 26 #[.agg #[.int .u32 f, .int .u32 t], .int .u32 a] w fun e w' => e = .returned (.bool (hasB f t a)) ∧ Below w.heap.size w w' := by
  by_cases h : f ≤ a
  · go_enter Try.func26, Try.ntmps26
    go_wp2
    go_ret
    exact ⟨ret_bool (by simp [hasB, h]), (Below.refl _ _).alloc (Nat.le_refl _) _⟩
  · go_enter Try.func26, Try.ntmps26
    go_wp2
    go_ret
    exact ⟨ret_bool (by unfold hasB; exact (decide_eq_false (by omega)).symm), (Below.refl _ _).alloc (Nat.le_refl _) _⟩

theorem rhas_any (f t a : Int) (w : World) :
    Calls Try.prog 42 #[.agg #[.int .u32 f, .int .u32 t], .int .u32 a] w fun e w' => e = .returned (.bool (hasB f t a)) ∧ Below w.heap.size w w' := by
  by_cases h : f ≤ a
  · go_enter Try.func42, Try.ntmps42
    go_wp2
    go_ret
    exact ⟨ret_bool (by simp [hasB, h]), (Below.refl _ _).alloc (Nat.le_refl _) _⟩
  · go_enter Try.func42, Try.ntmps42
    go_wp2
    go_ret
    exact ⟨ret_bool (by unfold hasB; exact (decide_eq_false (by omega)).symm), (Below.refl _ _).alloc (Nat.le_refl _) _⟩

theorem both_any (f t g u : Int) (w : World) :
    Calls Try.prog 35 #[.agg #[.int .u32 f, .int .u32 t], .agg #[.int .u32 g, .int .u32 u]] w fun e w' => e = .returned (.agg #[.int .u32 (max f g), .int .u32 (min t u)]) ∧ Below w.heap.size w w' := by
  go_enter Try.func35, Try.ntmps35
  go_wp2
  all_goals
    refine bodyPost_ret (v := .agg #[.int .u32 (max f g), .int .u32 (min t u)]) ?_ rfl ⟨rfl, (((Below.refl _ _).alloc (Nat.le_refl _) _).alloc (by simp) _).alloc (by simp; omega) _⟩
    simp [results, Try.results35, go_sem]
    omega

theorem Right_any (f t : Int) (w : World) :
    Calls Try.prog 51 #[.agg #[.int .u32 f, .int .u32 t]] w fun e w' => e = .returned (.bool (rightB f t)) ∧ Below w.heap.size w w' := by
  go_enter Try.func51, Try.ntmps51
  go_wp2_with fail
  refine (right_any f t _).mono ?_
  rintro e w1 ⟨rfl, hb⟩
  have Hb := Lib.hid (((Below.refl w.heap.size w).alloc (Nat.le_refl _) _).trans (hb.mono (by simp)))
  clear hb
  go_wp2_with fail
  go_ret
  exact ⟨rfl, Hb.out⟩

theorem Has_any (f t a : Int) (w : World) :
    Calls Try.prog 13 #[.agg #[.int .u32 f, .int .u32 t], .int .u32 a] w fun e w' => e = .returned (.bool (hasB f t a)) ∧ Below w.heap.size w w' := by
  go_enter Try.func13, Try.ntmps13
  go_wp2_with fail
  refine (has_any f t a _).mono ?_
  rintro e w1 ⟨rfl, hb⟩
  have Hb := Lib.hid (((Below.refl w.heap.size w).alloc (Nat.le_refl _) _).trans (hb.mono (by simp)))
  clear hb
  go_wp2_with fail
  go_ret
  exact ⟨rfl, Hb.out⟩

/-- What was there is there: two facts for the walk. -/
theorem bcell {B : Nat} {W w1 : World} (hb : Below B W w1) : (∀ b o, b < B → w1.cell? ⟨b, o, none⟩ = W.cell? ⟨b, o, none⟩) ∧ (∀ b o, b < B → w1.frozen? ⟨b, o, none⟩ = W.frozen? ⟨b, o, none⟩) :=
  ⟨fun b o h => hb.cell (p := ⟨b, o, none⟩) h, fun b o h => hb.frozen (p := ⟨b, o, none⟩) h⟩

theorem Of_any (a n : Int) (w : World) (ha : 0 ≤ a) (ha' : a < 4294967296) (hn : -9223372036854775808 ≤ n) (hn' : n ≤ 9223372036854775807) :
    Calls Try.prog 48 #[.int .u32 a, .int .i64 n] w fun e w' => e = .returned (.tuple #[.agg #[.int .u32 (ofF a n), .int .u32 (ofT a n)], .bool (ofB a n)]) ∧ Below w.heap.size w w' := by
  by_cases h1 : n < 1
  · go_enter Try.func48, Try.ntmps48
    go_wp2
    refine bodyPost_ret (v := .tuple #[.agg #[.int .u32 (ofF a n), .int .u32 (ofT a n)], .bool (ofB a n)]) ?_ rfl ⟨rfl, (Below.refl _ _).alloc (Nat.le_refl _) _⟩
    have e : ¬ (1 ≤ n ∧ a + n ≤ 4294967296) := by omega
    simp [results, Try.results48, go_sem, ofF, ofT, ofB, e]
  · by_cases h2 : a + n ≤ 4294967296
    · have e : (1 ≤ n ∧ a + n ≤ 4294967296) := by omega
      go_enter Try.func48, Try.ntmps48
      go_wp2
      refine bodyPost_ret (v := .tuple #[.agg #[.int .u32 (ofF a n), .int .u32 (ofT a n)], .bool (ofB a n)]) ?_ rfl ⟨rfl, (Below.refl _ _).alloc (Nat.le_refl _) _⟩
      simp [results, Try.results48, go_sem, ofF, ofT, ofB, e]
      omega
    · have e : ¬ (1 ≤ n ∧ a + n ≤ 4294967296) := by omega
      go_enter Try.func48, Try.ntmps48
      go_wp2
      refine bodyPost_ret (v := .tuple #[.agg #[.int .u32 (ofF a n), .int .u32 (ofT a n)], .bool (ofB a n)]) ?_ rfl ⟨rfl, (Below.refl _ _).alloc (Nat.le_refl _) _⟩
      simp [results, Try.results48, go_sem, ofF, ofT, ofB, e]

theorem rOf_any (a n : Int) (w : World) (ha : 0 ≤ a) (ha' : a < 4294967296) (hn : -9223372036854775808 ≤ n) (hn' : n ≤ 9223372036854775807) :
    Calls Try.prog 41 #[.int .u32 a, .int .i64 n] w fun e w' => e = .returned (.tuple #[.agg #[.int .u32 (ofF a n), .int .u32 (ofT a n)], .bool (ofB a n)]) ∧ Below w.heap.size w w' := by
  by_cases h1 : n < 1
  · go_enter Try.func41, Try.ntmps41
    go_wp2
    refine bodyPost_ret (v := .tuple #[.agg #[.int .u32 (ofF a n), .int .u32 (ofT a n)], .bool (ofB a n)]) ?_ rfl ⟨rfl, (Below.refl _ _).alloc (Nat.le_refl _) _⟩
    have e : ¬ (1 ≤ n ∧ a + n ≤ 4294967296) := by omega
    simp [results, Try.results41, go_sem, ofF, ofT, ofB, e]
  · by_cases h2 : a + n ≤ 4294967296
    · have e : (1 ≤ n ∧ a + n ≤ 4294967296) := by omega
      go_enter Try.func41, Try.ntmps41
      go_wp2
      refine bodyPost_ret (v := .tuple #[.agg #[.int .u32 (ofF a n), .int .u32 (ofT a n)], .bool (ofB a n)]) ?_ rfl ⟨rfl, (Below.refl _ _).alloc (Nat.le_refl _) _⟩
      simp [results, Try.results41, go_sem, ofF, ofT, ofB, e]
    · have e : ¬ (1 ≤ n ∧ a + n ≤ 4294967296) := by omega
      go_enter Try.func41, Try.ntmps41
      go_wp2
      refine bodyPost_ret (v := .tuple #[.agg #[.int .u32 (ofF a n), .int .u32 (ofT a n)], .bool (ofB a n)]) ?_ rfl ⟨rfl, (Below.refl _ _).alloc (Nat.le_refl _) _⟩
      simp [results, Try.results41, go_sem, ofF, ofT, ofB, e]
end Go.Proofs.Ytploggfaihfeeaa.Reach
