/- Contracts of the small functions of package reach and of the document's: right, wrong, has, both, meets, Right, Has, Size, Of. -/
import Derived.Test.YtblccnpdcnlhiaaProg
import Derived.WalkKit
import Derived.WalkLawsBesides
import Derived.Handy
import Derived.Outline
import Derived.Below
import Derived.Lib.Hide
namespace Go.Proofs.Ytblccnpdcnlhiaa.Reach
open Go.RowKit

theorem ret_bool {x y : Bool} (h : x = y) : Ending.returned (.bool x) = .returned (.bool y) := by rw [h]
theorem ret_int {k : IntKind} {a b : Int} (h : a = b) : Ending.returned (.int k a) = .returned (.int k b) := by rw [h]
theorem ret_reach {a b c d : Int} (h : a = b) (g : c = d) : Ending.returned (.agg #[.int .u32 a, .int .u32 c]) = .returned (.agg #[.int .u32 b, .int .u32 d]) := by rw [h, g]

/-- Is a reach right? -/
def rightB (f t : Int) : Bool := decide (f ≤ t)
/-- Has it an address? -/
def hasB (f t a : Int) : Bool := decide (f ≤ a ∧ a ≤ t)
/-- How many has it? -/
def sizeV (f t : Int) : Int := if f ≤ t then t - f + 1 else 0
/-- Is there one of n addresses from a on? Its ends. -/
def ofB (a n : Int) : Bool := decide (1 ≤ n ∧ a + n ≤ 4294967296)
def ofF (a n : Int) : Int := if 1 ≤ n ∧ a + n ≤ 4294967296 then a else 0
def ofT (a n : Int) : Int := if 1 ≤ n ∧ a + n ≤ 4294967296 then a + n - 1 else 0

theorem right_any (f t : Int) (w : World) :
    Calls Try.prog 52 #[.agg #[.int .u32 f, .int .u32 t]] w fun e w' => e = .returned (.bool (rightB f t)) ∧ Below w.heap.size w w' := by
  go_enter Try.func52, Try.ntmps52
  go_wp2
  go_ret
  exact ⟨rfl, (Below.refl _ _).alloc (Nat.le_refl _) _⟩

theorem Right_any (f t : Int) (w : World) :
    Calls Try.prog 34 #[.agg #[.int .u32 f, .int .u32 t]] w fun e w' => e = .returned (.bool (rightB f t)) ∧ Below w.heap.size w w' := by
  go_enter Try.func34, Try.ntmps34
  go_wp2_with fail
  refine (right_any f t _).mono ?_
  rintro e w1 ⟨rfl, hb⟩
  have Hb := Lib.hid (((Below.refl w.heap.size w).alloc (Nat.le_refl _) _).trans (hb.mono (by simp)))
  clear hb
  go_wp2_with fail
  go_ret
  exact ⟨rfl, Hb.out⟩

/-- What was there is there: two facts for the walk. -/
theorem bcell {B : Nat} {W w1 : World} (hb : Below B W w1) : (∀ b o, b < B → w1.cell? ⟨b, o, none⟩ = W.cell? ⟨b, o, none⟩) ∧ (∀ b o, b < B → w1.frozen? ⟨b, o, none⟩ = W.frozen? ⟨b, o, none⟩) :=
  ⟨fun b o h => hb.cell (p := ⟨b, o, none⟩) h, fun b o h => hb.frozen (p := ⟨b, o, none⟩) h⟩

theorem Size_any (f t : Int) (w : World) (hf : 0 ≤ f) (hf' : f < 4294967296) (ht : 0 ≤ t) (ht' : t < 4294967296) :
    Calls Try.prog 17 #[.agg #[.int .u32 f, .int .u32 t]] w fun e w' => e = .returned (.int .i64 (sizeV f t)) ∧ Below w.heap.size w w' := by
  by_cases h : f ≤ t
  · go_enter Try.func17, Try.ntmps17
    go_wp2_with fail
    refine (Right_any f t _).mono ?_
    rintro e w1 ⟨rfl, hb⟩
    have hr : rightB f t = true := decide_eq_true h
    obtain ⟨hc, -⟩ := bcell hb
    have Hb := Lib.hid (((Below.refl w.heap.size w).alloc (Nat.le_refl _) _).trans (hb.mono (by simp)))
    clear hb
    go_wp2_with fail
    go_ret
    exact ⟨ret_int (by simp [sizeV, h]), Hb.out⟩
  · go_enter Try.func17, Try.ntmps17
    go_wp2_with fail
    refine (Right_any f t _).mono ?_
    rintro e w1 ⟨rfl, hb⟩
    have hr : rightB f t = false := decide_eq_false (by omega)
    have Hb := Lib.hid (((Below.refl w.heap.size w).alloc (Nat.le_refl _) _).trans (hb.mono (by simp)))
    clear hb
    go_wp2_with fail
    go_ret
    exact ⟨ret_int (by unfold sizeV; rw [if_neg (by omega)]), Hb.out⟩

theorem Of_any (a n : Int) (w : World) (ha : 0 ≤ a) (ha' : a < 4294967296) (hn : -9223372036854775808 ≤ n) (hn' : n ≤ 9223372036854775807) :
    Calls Try.prog 33 #[.int .u32 a, .int .i64 n] w fun e w' => e = .returned (.tuple #[.agg #[.int .u32 (ofF a n), .int .u32 (ofT a n)], .bool (ofB a n)]) ∧ Below w.heap.size w w' := by
  by_cases h1 : n < 1
  · go_enter Try.func33, Try.ntmps33
    go_wp2
    refine bodyPost_ret (v := .tuple #[.agg #[.int .u32 (ofF a n), .int .u32 (ofT a n)], .bool (ofB a n)]) ?_ rfl ⟨rfl, (Below.refl _ _).alloc (Nat.le_refl _) _⟩
    have e : ¬ (1 ≤ n ∧ a + n ≤ 4294967296) := by omega
    simp [results, Try.results33, go_sem, ofF, ofT, ofB, e]
  · by_cases h2 : a + n ≤ 4294967296
    · have e : (1 ≤ n ∧ a + n ≤ 4294967296) := by omega
      go_enter Try.func33, Try.ntmps33
      go_wp2
      refine bodyPost_ret (v := .tuple #[.agg #[.int .u32 (ofF a n), .int .u32 (ofT a n)], .bool (ofB a n)]) ?_ rfl ⟨rfl, (Below.refl _ _).alloc (Nat.le_refl _) _⟩
      simp [results, Try.results33, go_sem, ofF, ofT, ofB, e]
      omega
    · have e : ¬ (1 ≤ n ∧ a + n ≤ 4294967296) := by omega
      go_enter Try.func33, Try.ntmps33
      go_wp2
      refine bodyPost_ret (v := .tuple #[.agg #[.int .u32 (ofF a n), .int .u32 (ofT a n)], .bool (ofB a n)]) ?_ rfl ⟨rfl, (Below.refl _ _).alloc (Nat.le_refl _) _⟩
      simp [results, Try.results33, go_sem, ofF, ofT, ofB, e]

theorem rOf_any (a n : Int) (w : World) (ha : 0 ≤ a) (ha' : a < 4294967296) (hn : -9223372036854775808 ≤ n) (hn' : n ≤ 9223372036854775807) :
    Calls Try.prog 35 #[.int .u32 a, .int .i64 n] w fun e w' => e = .returned (.tuple #[.agg #[.int .u32 (ofF a n), .int .u32 (ofT a n)], .bool (ofB a n)]) ∧ Below w.heap.size w w' := by
  by_cases h1 : n < 1
  · go_enter Try.func35, Try.ntmps35
    go_wp2
    refine bodyPost_ret (v := .tuple #[.agg #[.int .u32 (ofF a n), .int .u32 (ofT a n)], .bool (ofB a n)]) ?_ rfl ⟨rfl, (Below.refl _ _).alloc (Nat.le_refl _) _⟩
    have e : ¬ (1 ≤ n ∧ a + n ≤ 4294967296) := by omega
    simp [results, Try.results35, go_sem, ofF, ofT, ofB, e]
  · by_cases h2 : a + n ≤ 4294967296
    · have e : (1 ≤ n ∧ a + n ≤ 4294967296) := by omega
      go_enter Try.func35, Try.ntmps35
      go_wp2
      refine bodyPost_ret (v := .tuple #[.agg #[.int .u32 (ofF a n), .int .u32 (ofT a n)], .bool (ofB a n)]) ?_ rfl ⟨rfl, (Below.refl _ _).alloc (Nat.le_refl _) _⟩
      simp [results, Try.results35, go_sem, ofF, ofT, ofB, e]
    · have e : ¬ (1 ≤ n ∧ a + n ≤ 4294967296) := by omega
      go_enter Try.func35, Try.ntmps35
      go_wp2
      refine bodyPost_ret (v := .tuple #[.agg #[.int .u32 (ofF a n), .int .u32 (ofT a n)], .bool (ofB a n)]) ?_ rfl ⟨rfl, (Below.refl _ _).alloc (Nat.le_refl _) _⟩
      simp [results, Try.results35, go_sem, ofF, ofT, ofB, e]
end Go.Proofs.Ytblccnpdcnlhiaa.Reach
