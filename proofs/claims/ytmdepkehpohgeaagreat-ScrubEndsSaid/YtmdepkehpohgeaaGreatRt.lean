/- Put together: Rta, Rtb, Rtc, Rtd, Rte, Rtf, Rtg. -/
import Derived.Test.YtmdepkehpohgeaaGreatProg
import Derived.WalkKit
import Derived.WalkLawsBesides
import Derived.Handy
import Derived.Outline
import Derived.Below
import Derived.Lib.Hide
import Derived.Test.YtmdepkehpohgeaaGreatBa
import Derived.Sort.Grow
import Derived.Deep.RegionHeld3
import Derived.Deep.QuietTactic
import Derived.BigQuiet
import Derived.OpenShut
/- Contracts of the small functions of package reach and of the document's: right, wrong, has, both, meets, Right, Has, Size, Of. -/
namespace Go.Proofs.YtmdepkehpohgeaaGreat.Reach
open Go.RowKit

theorem ret_bool {x y : Bool} (h : x = y) : Ending.returned (.bool x) = .returned (.bool y) := by rw [h]
theorem ret_int {k : IntKind} {a b : Int} (h : a = b) : Ending.returned (.int k a) = .returned (.int k b) := by rw [h]
theorem ret_reach {a b c d : Int} (h : a = b) (g : c = d) : Ending.returned (.agg #[.int .u32 a, .int .u32 c]) = .returned (.agg #[.int .u32 b, .int .u32 d]) := by rw [h, g]

/-- Is a reach right? -/
def rightB (f t : Int) : Bool := decide (f ≤ t)
/-- Has it an address? -/
def hasB (f t a : Int) : Bool := decide (f ≤ a ∧ a ≤ t)
/-- How many has it? -/
def sizeV (f t : Int) : Int := if f ≤ t then t - f + 1 else 0
/-- Is there one of n addresses from a on? Its ends. -/
def ofB (a n : Int) : Bool := decide (1 ≤ n ∧ a + n ≤ 4294967296)
def ofF (a n : Int) : Int := if 1 ≤ n ∧ a + n ≤ 4294967296 then a else 0
def ofT (a n : Int) : Int := if 1 ≤ n ∧ a + n ≤ 4294967296 then a + n - 1 else 0

theorem right_any (f t : Int) (w : World) :
    Calls Tryz.prog 117 #[.agg #[.int .u32 f, .int .u32 t]] w fun e w' => e = .returned (.bool (rightB f t)) ∧ Below w.heap.size w w' := by
  go_enter Tryz.func117, Tryz.ntmps117
  go_wp2
  go_ret
  exact ⟨rfl, (Below.refl _ _).alloc (Nat.le_refl _) _⟩

theorem rright_any (f t : Int) (w : World) :
    Calls Tryz.prog 74 #[.agg #[.int .u32 f, .int .u32 t]] w fun e w' => e = .returned (.bool (rightB f t)) ∧ Below w.heap.size w w' := by
  go_enter Tryz.func74, Tryz.ntmps74
  go_wp2
  go_ret
  exact ⟨rfl, (Below.refl _ _).alloc (Nat.le_refl _) _⟩

theorem wrong_any (f t : Int) (w : World) :
    Calls Tryz.prog 98 #[.agg #[.int .u32 f, .int .u32 t]] w fun e w' => e = .returned (.bool (!rightB f t)) ∧ Below w.heap.size w w' := by
  go_enter Tryz.func98, Tryz.ntmps98
  go_wp2_with fail
  refine (right_any f t _).mono ?_
  rintro e w1 ⟨rfl, hb⟩
  have Hb := Lib.hid (((Below.refl w.heap.size w).alloc (Nat.le_refl _) _).trans (hb.mono (by simp)))
  clear hb
  go_wp2_with fail
  go_ret
  exact ⟨rfl, Hb.out⟩

theorem both_any (f t g u : Int) (w : World) :
    Calls Tryz.prog 122 #[.agg #[.int .u32 f, .int .u32 t], .agg #[.int .u32 g, .int .u32 u]] w fun e w' => e = .returned (.agg #[.int .u32 (max f g), .int .u32 (min t u)]) ∧ Below w.heap.size w w' := by
  go_enter Tryz.func122, Tryz.ntmps122
  go_wp2
  all_goals
    refine bodyPost_ret (v := .agg #[.int .u32 (max f g), .int .u32 (min t u)]) ?_ rfl ⟨rfl, (((Below.refl _ _).alloc (Nat.le_refl _) _).alloc (by simp) _).alloc (by simp; omega) _⟩
    simp [results, Tryz.results122, go_sem]
    omega

theorem meets_any (f t g u : Int) (w : World) :
    Calls Tryz.prog 102 #[.agg #[.int .u32 f, .int .u32 t], .agg #[.int .u32 g, .int .u32 u]] w fun e w' => e = .returned (.bool (rightB (max f g) (min t u))) ∧ Below w.heap.size w w' := by
  go_enter Tryz.func102, Tryz.ntmps102
  go_wp2_with fail
  refine (both_any f t g u _).mono ?_
  rintro e w1 ⟨rfl, hb⟩
  have Hb := Lib.hid ((((Below.refl w.heap.size w).alloc (Nat.le_refl _) _).alloc (by simp) _).trans (hb.mono (by simp; omega)))
  clear hb
  go_wp2_with fail
  refine (right_any _ _ _).mono ?_
  rintro e w2 ⟨rfl, hb⟩
  have Hb2 := Lib.hid (Hb.out.trans (hb.mono Hb.out.size))
  clear hb
  go_wp2_with fail
  go_ret
  exact ⟨rfl, Hb2.out⟩

/-- What was there is there: two facts for the walk. -/
theorem bcell {B : Nat} {W w1 : World} (hb : Below B W w1) : (∀ b o, b < B → w1.cell? ⟨b, o, none⟩ = W.cell? ⟨b, o, none⟩) ∧ (∀ b o, b < B → w1.frozen? ⟨b, o, none⟩ = W.frozen? ⟨b, o, none⟩) :=
  ⟨fun b o h => hb.cell (p := ⟨b, o, none⟩) h, fun b o h => hb.frozen (p := ⟨b, o, none⟩) h⟩

theorem Of_any (a n : Int) (w : World) (ha : 0 ≤ a) (ha' : a < 4294967296) (hn : -9223372036854775808 ≤ n) (hn' : n ≤ 9223372036854775807) :
    Calls Tryz.prog 115 #[.int .u32 a, .int .i64 n] w fun e w' => e = .returned (.tuple #[.agg #[.int .u32 (ofF a n), .int .u32 (ofT a n)], .bool (ofB a n)]) ∧ Below w.heap.size w w' := by
  by_cases h1 : n < 1
  · go_enter Tryz.func115, Tryz.ntmps115
    go_wp2
    refine bodyPost_ret (v := .tuple #[.agg #[.int .u32 (ofF a n), .int .u32 (ofT a n)], .bool (ofB a n)]) ?_ rfl ⟨rfl, (Below.refl _ _).alloc (Nat.le_refl _) _⟩
    have e : ¬ (1 ≤ n ∧ a + n ≤ 4294967296) := by omega
    simp [results, Tryz.results115, go_sem, ofF, ofT, ofB, e]
  · by_cases h2 : a + n ≤ 4294967296
    · have e : (1 ≤ n ∧ a + n ≤ 4294967296) := by omega
      go_enter Tryz.func115, Tryz.ntmps115
      go_wp2
      refine bodyPost_ret (v := .tuple #[.agg #[.int .u32 (ofF a n), .int .u32 (ofT a n)], .bool (ofB a n)]) ?_ rfl ⟨rfl, (Below.refl _ _).alloc (Nat.le_refl _) _⟩
      simp [results, Tryz.results115, go_sem, ofF, ofT, ofB, e]
      omega
    · have e : ¬ (1 ≤ n ∧ a + n ≤ 4294967296) := by omega
      go_enter Tryz.func115, Tryz.ntmps115
      go_wp2
      refine bodyPost_ret (v := .tuple #[.agg #[.int .u32 (ofF a n), .int .u32 (ofT a n)], .bool (ofB a n)]) ?_ rfl ⟨rfl, (Below.refl _ _).alloc (Nat.le_refl _) _⟩
      simp [results, Tryz.results115, go_sem, ofF, ofT, ofB, e]

theorem rOf_any (a n : Int) (w : World) (ha : 0 ≤ a) (ha' : a < 4294967296) (hn : -9223372036854775808 ≤ n) (hn' : n ≤ 9223372036854775807) :
    Calls Tryz.prog 73 #[.int .u32 a, .int .i64 n] w fun e w' => e = .returned (.tuple #[.agg #[.int .u32 (ofF a n), .int .u32 (ofT a n)], .bool (ofB a n)]) ∧ Below w.heap.size w w' := by
  by_cases h1 : n < 1
  · go_enter Tryz.func73, Tryz.ntmps73
    go_wp2
    refine bodyPost_ret (v := .tuple #[.agg #[.int .u32 (ofF a n), .int .u32 (ofT a n)], .bool (ofB a n)]) ?_ rfl ⟨rfl, (Below.refl _ _).alloc (Nat.le_refl _) _⟩
    have e : ¬ (1 ≤ n ∧ a + n ≤ 4294967296) := by omega
    simp [results, Tryz.results73, go_sem, ofF, ofT, ofB, e]
  · by_cases h2 : a + n ≤ 4294967296
    · have e : (1 ≤ n ∧ a + n ≤ 4294967296) := by omega
      go_enter Tryz.func73, Tryz.ntmps73
      go_wp2
      refine bodyPost_ret (v := .tuple #[.agg #[.int .u32 (ofF a n), .int .u32 (ofT a n)], .bool (ofB a n)]) ?_ rfl ⟨rfl, (Below.refl _ _).alloc (Nat.le_refl _) _⟩
      simp [results, Tryz.results73, go_sem, ofF, ofT, ofB, e]
    · have e : ¬ (1 ≤ n ∧ a + n ≤ 4294967296) := by omega
      go_enter Tryz.func73, Tryz.ntmps73
      go_wp2
      refine bodyPost_ret (v := .tuple #[.agg #[.int .u32 (ofF a n), .int .u32 (ofT a n)], .bool (ofB a n)]) ?_ rfl ⟨rfl, (Below.refl _ _).alloc (Nat.le_refl _) _⟩
      simp [results, Tryz.results73, go_sem, ofF, ofT, ofB, e]
end Go.Proofs.YtmdepkehpohgeaaGreat.Reach
/- Worlds that only draw and lay blocks; cmp.Compare, cmp.Or of two; order, less. -/
namespace Go.Proofs.YtmdepkehpohgeaaGreat.Reach
open Go.RowKit Go.Sort

/-- Draws and new blocks, no more. -/
def Grew (W w : World) : Prop := ∃ q os, w = grow (W.drewN q) os
theorem Grew.refl (W : World) : Grew W W := ⟨0, #[], (grow_empty W).symm⟩
theorem Grew.alloc {W w : World} (h : Grew W w) (o : Obj) : Grew W (w.alloc o) := by
  obtain ⟨q, os, rfl⟩ := h
  exact ⟨q, os ++ #[o], by rw [alloc_eq_grow, grow_grow]⟩
theorem Grew.drew {W w : World} (h : Grew W w) : Grew W w.drew := by
  obtain ⟨q, os, rfl⟩ := h
  exact ⟨q + 1, os, rfl⟩
theorem drewN_drewN (W : World) (a b : Nat) : (W.drewN a).drewN b = W.drewN (a + b) := by
  induction b with
  | zero => rfl
  | succ b ih => show ((W.drewN a).drewN b).drew = _; rw [ih]; rfl
theorem drewN_grow (w : World) (os : Array Obj) (n : Nat) : (grow w os).drewN n = grow (w.drewN n) os := by
  induction n with
  | zero => rfl
  | succ n ih => show ((grow w os).drewN n).drew = _; rw [ih]; rfl
theorem Grew.drewN {W w : World} (h : Grew W w) (n : Nat) : Grew W (w.drewN n) := by
  obtain ⟨q, os, rfl⟩ := h
  exact ⟨q + n, os, by rw [drewN_grow, drewN_drewN]⟩
theorem Grew.trans {W w v : World} (h : Grew W w) (k : Grew w v) : Grew W v := by
  obtain ⟨q, os, rfl⟩ := h
  obtain ⟨p, us, rfl⟩ := k
  exact ⟨q + p, os ++ us, by rw [drewN_grow, drewN_drewN, grow_grow]⟩
theorem Grew.below {W w : World} (h : Grew W w) : Below W.heap.size W w := by
  obtain ⟨q, os, rfl⟩ := h
  refine ⟨?_, ?_, ?_, ?_, ?_⟩
  all_goals first | (induction q with | zero => rfl | succ q ih => exact ih) | skip
  · rw [size_grow]
    have : (W.drewN q).heap = W.heap := by induction q with | zero => rfl | succ q ih => exact ih
    rw [this]; omega
  · intro k hk
    have : (W.drewN q).heap = W.heap := by induction q with | zero => rfl | succ q ih => exact ih
    rw [heap_grow_old _ _ (by rw [this]; exact hk), this]

/-- cmp.Compare. -/
def cmpV (x y : Int) : Int := if x < y then -1 else if y < x then 1 else 0
theorem compare_any (x y : Int) (w : World) :
    Calls Tryz.prog 121 #[.int .u32 x, .int .u32 y] w fun e w' => e = .returned (.int .i64 (cmpV x y)) ∧ w = w' := by
  by_cases h1 : x < y
  · go_enter Tryz.func121, Tryz.ntmps121
    go_wp2
    go_ret
    exact ⟨ret_int (by simp [cmpV, h1]), rfl⟩
  · by_cases h2 : y < x
    · go_enter Tryz.func121, Tryz.ntmps121
      go_wp2
      go_ret
      exact ⟨ret_int (by unfold cmpV; rw [if_neg (by omega), if_pos (by omega)]), rfl⟩
    · go_enter Tryz.func121, Tryz.ntmps121
      go_wp2
      go_ret
      exact ⟨ret_int (by unfold cmpV; rw [if_neg (by omega), if_neg (by omega)]), rfl⟩

/-- The first that is not nought. -/
def orV (a b : Int) : Int := if a = 0 then b else a
theorem or_two (a b : Int) (g c : Nat) (w : World) (h0 : w.cell? ⟨g, 0, none⟩ = some (.int .i64 a)) (h1 : w.cell? ⟨g, 1, none⟩ = some (.int .i64 b)) :
    Calls Tryz.prog 120 #[.slice (some ⟨g, 0, none⟩) 2 c] w fun e w' => e = .returned (.int .i64 (orV a b)) ∧ w = w' := by
  by_cases ha : a = 0
  · by_cases hb : b = 0
    · subst ha
      subst hb
      go_enter Tryz.func120, Tryz.ntmps120
      go_wp2
      go_rounds 4
      go_ret
      exact ⟨ret_int (by simp [orV]), rfl⟩
    · subst ha
      go_enter Tryz.func120, Tryz.ntmps120
      go_wp2
      go_rounds 4
      go_ret
      exact ⟨ret_int (by simp [orV]), rfl⟩
  · go_enter Tryz.func120, Tryz.ntmps120
    go_wp2
    go_rounds 4
    go_ret
    exact ⟨ret_int (by simp [orV, ha]), rfl⟩
def ordV (f t g u : Int) : Int := orV (cmpV f g) (cmpV t u)
set_option maxHeartbeats 1000000 in
theorem order_any (f t g u : Int) (w : World) :
    Calls Tryz.prog 100 #[.agg #[.int .u32 f, .int .u32 t], .agg #[.int .u32 g, .int .u32 u]] w fun e w' => e = .returned (.int .i64 (ordV f t g u)) ∧ Grew w w' := by
  go_enter Tryz.func100, Tryz.ntmps100
  go_wp2_with fail
  go_region_held3 (fun w' => w'.cell? ⟨w.heap.size, 0, none⟩ = some (.int .u32 f) ∧ w'.cell? ⟨w.heap.size, 1, none⟩ = some (.int .u32 t) ∧ w'.cell? ⟨w.heap.size + 1, 0, none⟩ = some (.int .u32 g) ∧ w'.cell? ⟨w.heap.size + 1, 1, none⟩ = some (.int .u32 u)) (go_keep)
    (first | (go_at_call 121; refine (compare_any _ _ _).mono ?_; rintro e w' ⟨rfl, rfl⟩) | (go_at_call 120; refine (or_two (cmpV f g) (cmpV t u) _ _ _ ?_ ?_).mono ?_; (first | (simp [go_sem]; done) | (rw [World.cell?_drew]; exact World.cell?_alloc_at _ _ _ 0 (by simp))); (first | (simp [go_sem]; done) | (rw [World.cell?_drew]; exact World.cell?_alloc_at _ _ _ 1 (by simp))); rintro e w' ⟨rfl, rfl⟩))
  go_wp2_with fail
  go_ret
  exact ⟨rfl, by repeat (first | exact Grew.refl _ | refine Grew.drew ?_ | refine Grew.alloc ?_ _ | refine Grew.drewN ?_ _)⟩

/-- Does a reach lie in another one? -/
def inB (f t g u : Int) : Bool := decide (f ≤ t ∧ g ≤ f ∧ t ≤ u)
theorem right_yes (f t : Int) (h : f ≤ t) (w : World) :
    Calls Tryz.prog 117 #[.agg #[.int .u32 f, .int .u32 t]] w fun e w' => e = .returned (.bool true) ∧ Below w.heap.size w w' :=
  (right_any f t w).mono fun e w' ⟨he, hb⟩ => ⟨by rw [he]; exact ret_bool (decide_eq_true h), hb⟩
theorem right_no (f t : Int) (h : ¬ f ≤ t) (w : World) :
    Calls Tryz.prog 117 #[.agg #[.int .u32 f, .int .u32 t]] w fun e w' => e = .returned (.bool false) ∧ Below w.heap.size w w' :=
  (right_any f t w).mono fun e w' ⟨he, hb⟩ => ⟨by rw [he]; exact ret_bool (decide_eq_false h), hb⟩
theorem both_val (f t g u m n : Int) (w : World) (hm : max f g = m) (hn : min t u = n) :
    Calls Tryz.prog 122 #[.agg #[.int .u32 f, .int .u32 t], .agg #[.int .u32 g, .int .u32 u]] w fun e w' => e = .returned (.agg #[.int .u32 m, .int .u32 n]) ∧ Below w.heap.size w w' := by
  rw [← hm, ← hn]; exact both_any f t g u w
end Go.Proofs.YtmdepkehpohgeaaGreat.Reach
/- Contracts of package reach and of the document's: In, Less, Meet; Pick. -/
namespace Go.Proofs.YtmdepkehpohgeaaGreat.Reach
open Go.RowKit
set_option linter.unusedVariables false

def lessB (f t g u : Int) : Bool := decide (f < g ∨ f = g ∧ t < u)
theorem ordV_less (f t g u : Int) : decide (ordV f t g u < 0) = lessB f t g u := by
  unfold lessB ordV orV cmpV
  rw [decide_eq_decide]
  repeat (any_goals split)
  all_goals omega
theorem tmod_bounds (x n : Int) (hn : 0 < n) : -n < Int.tmod x n ∧ Int.tmod x n < n := by
  by_cases h : 0 ≤ x
  · rw [Int.tmod_eq_emod_of_nonneg h]
    have := Int.emod_nonneg x (show n ≠ 0 by omega)
    have := Int.emod_lt_of_pos x hn
    omega
  · have e : Int.tmod x n = -(Int.tmod (-x) n) := by rw [Int.neg_tmod]; omega
    rw [e, Int.tmod_eq_emod_of_nonneg (by omega)]
    have := Int.emod_nonneg (-x) (show n ≠ 0 by omega)
    have := Int.emod_lt_of_pos (-x) hn
    omega
def pickV (x : Int) : Int := if Int.tmod x 9 < 0 then Int.tmod x 9 + 9 else Int.tmod x 9
theorem pickV_bounds (x : Int) : 0 ≤ pickV x ∧ pickV x ≤ 8 := by
  have := tmod_bounds x 9 (by omega)
  unfold pickV
  split <;> omega
theorem pick_any (x : Int) (w : World) (h0 : -9223372036854775808 ≤ x) (h1 : x ≤ 9223372036854775807) :
    Calls Tryz.prog 36 #[.int .i64 x, .int .i64 9] w fun e w' => e = .returned (.int .i64 (pickV x)) ∧ w = w' := by
  have ht := tmod_bounds x 9 (by omega)
  by_cases hneg : Int.tmod x 9 < 0
  · have d1 : decide (Int.tmod x 9 < 0) = true := by simpa using hneg
    go_enter Tryz.func36, Tryz.ntmps36
    go_wp2
    go_ret
    exact ⟨ret_int (by unfold pickV; rw [if_pos (by omega)]), rfl⟩
  · have d1 : decide (Int.tmod x 9 < 0) = false := by simpa using hneg
    go_enter Tryz.func36, Tryz.ntmps36
    go_wp2
    go_ret
    exact ⟨ret_int (by unfold pickV; rw [if_neg (by omega)]), rfl⟩
end Go.Proofs.YtmdepkehpohgeaaGreat.Reach
/- Contracts of Meet, the package's and the document's. -/
namespace Go.Proofs.YtmdepkehpohgeaaGreat.Reach
open Go.RowKit
set_option linter.unusedVariables false
def meetB (f t g u : Int) : Bool := decide (max f g ≤ min t u)
def meetF (f t g u : Int) : Int := if max f g ≤ min t u then max f g else 0
def meetT (f t g u : Int) : Int := if max f g ≤ min t u then min t u else 0
theorem rMeet_a (f t g u : Int) (w : World) (h : t < f) :
    Calls Tryz.prog 59 #[.agg #[.int .u32 f, .int .u32 t], .agg #[.int .u32 g, .int .u32 u]] w fun e w' => e = .returned (.tuple #[.agg #[.int .u32 (meetF f t g u), .int .u32 (meetT f t g u)], .bool (meetB f t g u)]) ∧ Below w.heap.size w w' := by
  have h0 := h
  have dft : decide (f ≤ t) = false := decide_eq_false (by omega)
  go_enter Tryz.func59, Tryz.ntmps59
  go_wp2
  all_goals
    refine bodyPost_ret (v := .tuple #[.agg #[.int .u32 (meetF f t g u), .int .u32 (meetT f t g u)], .bool (meetB f t g u)]) ?_ rfl ⟨rfl, ?_⟩
    · simp [results, Tryz.results59, go_sem, meetF, meetT, meetB]
      omega
    · repeat (first | exact Below.refl _ _ | refine Below.alloc ?_ (by simp; omega) _ | refine Below.alloc ?_ (by simp) _)
theorem rMeet_b (f t g u : Int) (w : World) (h : f ≤ t ∧ u < g) :
    Calls Tryz.prog 59 #[.agg #[.int .u32 f, .int .u32 t], .agg #[.int .u32 g, .int .u32 u]] w fun e w' => e = .returned (.tuple #[.agg #[.int .u32 (meetF f t g u), .int .u32 (meetT f t g u)], .bool (meetB f t g u)]) ∧ Below w.heap.size w w' := by
  obtain ⟨h0, h1⟩ := h
  have dgu : decide (g ≤ u) = false := decide_eq_false (by omega)
  go_enter Tryz.func59, Tryz.ntmps59
  go_wp2
  all_goals
    refine bodyPost_ret (v := .tuple #[.agg #[.int .u32 (meetF f t g u), .int .u32 (meetT f t g u)], .bool (meetB f t g u)]) ?_ rfl ⟨rfl, ?_⟩
    · simp [results, Tryz.results59, go_sem, meetF, meetT, meetB]
      omega
    · repeat (first | exact Below.refl _ _ | refine Below.alloc ?_ (by simp; omega) _ | refine Below.alloc ?_ (by simp) _)
theorem rMeet_aay (f t g u : Int) (w : World) (h : f ≤ t ∧ g ≤ u ∧ f < g ∧ t ≤ u ∧ g ≤ t) :
    Calls Tryz.prog 59 #[.agg #[.int .u32 f, .int .u32 t], .agg #[.int .u32 g, .int .u32 u]] w fun e w' => e = .returned (.tuple #[.agg #[.int .u32 (meetF f t g u), .int .u32 (meetT f t g u)], .bool (meetB f t g u)]) ∧ Below w.heap.size w w' := by
  obtain ⟨h0, h1, h2, h3, h4⟩ := h
  have dgf : decide (g ≤ f) = false := decide_eq_false (by omega)
  go_enter Tryz.func59, Tryz.ntmps59
  go_wp2
  all_goals
    refine bodyPost_ret (v := .tuple #[.agg #[.int .u32 (meetF f t g u), .int .u32 (meetT f t g u)], .bool (meetB f t g u)]) ?_ rfl ⟨rfl, ?_⟩
    · simp [results, Tryz.results59, go_sem, meetF, meetT, meetB]
      omega
    · repeat (first | exact Below.refl _ _ | refine Below.alloc ?_ (by simp; omega) _ | refine Below.alloc ?_ (by simp) _)
theorem rMeet_aan (f t g u : Int) (w : World) (h : f ≤ t ∧ g ≤ u ∧ f < g ∧ t ≤ u ∧ t < g) :
    Calls Tryz.prog 59 #[.agg #[.int .u32 f, .int .u32 t], .agg #[.int .u32 g, .int .u32 u]] w fun e w' => e = .returned (.tuple #[.agg #[.int .u32 (meetF f t g u), .int .u32 (meetT f t g u)], .bool (meetB f t g u)]) ∧ Below w.heap.size w w' := by
  obtain ⟨h0, h1, h2, h3, h4⟩ := h
  have dgf : decide (g ≤ f) = false := decide_eq_false (by omega)
  have dgt : decide (g ≤ t) = false := decide_eq_false (by omega)
  go_enter Tryz.func59, Tryz.ntmps59
  go_wp2
  all_goals
    refine bodyPost_ret (v := .tuple #[.agg #[.int .u32 (meetF f t g u), .int .u32 (meetT f t g u)], .bool (meetB f t g u)]) ?_ rfl ⟨rfl, ?_⟩
    · simp [results, Tryz.results59, go_sem, meetF, meetT, meetB]
      omega
    · repeat (first | exact Below.refl _ _ | refine Below.alloc ?_ (by simp; omega) _ | refine Below.alloc ?_ (by simp) _)
theorem rMeet_aby (f t g u : Int) (w : World) (h : f ≤ t ∧ g ≤ u ∧ f < g ∧ u < t ∧ g ≤ u) :
    Calls Tryz.prog 59 #[.agg #[.int .u32 f, .int .u32 t], .agg #[.int .u32 g, .int .u32 u]] w fun e w' => e = .returned (.tuple #[.agg #[.int .u32 (meetF f t g u), .int .u32 (meetT f t g u)], .bool (meetB f t g u)]) ∧ Below w.heap.size w w' := by
  obtain ⟨h0, h1, h2, h3, h4⟩ := h
  have dgf : decide (g ≤ f) = false := decide_eq_false (by omega)
  have dtu : decide (t ≤ u) = false := decide_eq_false (by omega)
  go_enter Tryz.func59, Tryz.ntmps59
  go_wp2
  all_goals
    refine bodyPost_ret (v := .tuple #[.agg #[.int .u32 (meetF f t g u), .int .u32 (meetT f t g u)], .bool (meetB f t g u)]) ?_ rfl ⟨rfl, ?_⟩
    · simp [results, Tryz.results59, go_sem, meetF, meetT, meetB]
      omega
    · repeat (first | exact Below.refl _ _ | refine Below.alloc ?_ (by simp; omega) _ | refine Below.alloc ?_ (by simp) _)
theorem rMeet_abn (f t g u : Int) (w : World) (h : f ≤ t ∧ g ≤ u ∧ f < g ∧ u < t ∧ u < g) :
    Calls Tryz.prog 59 #[.agg #[.int .u32 f, .int .u32 t], .agg #[.int .u32 g, .int .u32 u]] w fun e w' => e = .returned (.tuple #[.agg #[.int .u32 (meetF f t g u), .int .u32 (meetT f t g u)], .bool (meetB f t g u)]) ∧ Below w.heap.size w w' := by
  exfalso; omega
theorem rMeet_bay (f t g u : Int) (w : World) (h : f ≤ t ∧ g ≤ u ∧ g ≤ f ∧ t ≤ u ∧ f ≤ t) :
    Calls Tryz.prog 59 #[.agg #[.int .u32 f, .int .u32 t], .agg #[.int .u32 g, .int .u32 u]] w fun e w' => e = .returned (.tuple #[.agg #[.int .u32 (meetF f t g u), .int .u32 (meetT f t g u)], .bool (meetB f t g u)]) ∧ Below w.heap.size w w' := by
  obtain ⟨h0, h1, h2, h3, h4⟩ := h
  go_enter Tryz.func59, Tryz.ntmps59
  go_wp2
  all_goals
    refine bodyPost_ret (v := .tuple #[.agg #[.int .u32 (meetF f t g u), .int .u32 (meetT f t g u)], .bool (meetB f t g u)]) ?_ rfl ⟨rfl, ?_⟩
    · simp [results, Tryz.results59, go_sem, meetF, meetT, meetB]
      omega
    · repeat (first | exact Below.refl _ _ | refine Below.alloc ?_ (by simp; omega) _ | refine Below.alloc ?_ (by simp) _)
theorem rMeet_ban (f t g u : Int) (w : World) (h : f ≤ t ∧ g ≤ u ∧ g ≤ f ∧ t ≤ u ∧ t < f) :
    Calls Tryz.prog 59 #[.agg #[.int .u32 f, .int .u32 t], .agg #[.int .u32 g, .int .u32 u]] w fun e w' => e = .returned (.tuple #[.agg #[.int .u32 (meetF f t g u), .int .u32 (meetT f t g u)], .bool (meetB f t g u)]) ∧ Below w.heap.size w w' := by
  exfalso; omega
theorem rMeet_bby (f t g u : Int) (w : World) (h : f ≤ t ∧ g ≤ u ∧ g ≤ f ∧ u < t ∧ f ≤ u) :
    Calls Tryz.prog 59 #[.agg #[.int .u32 f, .int .u32 t], .agg #[.int .u32 g, .int .u32 u]] w fun e w' => e = .returned (.tuple #[.agg #[.int .u32 (meetF f t g u), .int .u32 (meetT f t g u)], .bool (meetB f t g u)]) ∧ Below w.heap.size w w' := by
  obtain ⟨h0, h1, h2, h3, h4⟩ := h
  have dtu : decide (t ≤ u) = false := decide_eq_false (by omega)
  go_enter Tryz.func59, Tryz.ntmps59
  go_wp2
  all_goals
    refine bodyPost_ret (v := .tuple #[.agg #[.int .u32 (meetF f t g u), .int .u32 (meetT f t g u)], .bool (meetB f t g u)]) ?_ rfl ⟨rfl, ?_⟩
    · simp [results, Tryz.results59, go_sem, meetF, meetT, meetB]
      omega
    · repeat (first | exact Below.refl _ _ | refine Below.alloc ?_ (by simp; omega) _ | refine Below.alloc ?_ (by simp) _)
theorem rMeet_bbn (f t g u : Int) (w : World) (h : f ≤ t ∧ g ≤ u ∧ g ≤ f ∧ u < t ∧ u < f) :
    Calls Tryz.prog 59 #[.agg #[.int .u32 f, .int .u32 t], .agg #[.int .u32 g, .int .u32 u]] w fun e w' => e = .returned (.tuple #[.agg #[.int .u32 (meetF f t g u), .int .u32 (meetT f t g u)], .bool (meetB f t g u)]) ∧ Below w.heap.size w w' := by
  obtain ⟨h0, h1, h2, h3, h4⟩ := h
  have dtu : decide (t ≤ u) = false := decide_eq_false (by omega)
  have dfu : decide (f ≤ u) = false := decide_eq_false (by omega)
  go_enter Tryz.func59, Tryz.ntmps59
  go_wp2
  all_goals
    refine bodyPost_ret (v := .tuple #[.agg #[.int .u32 (meetF f t g u), .int .u32 (meetT f t g u)], .bool (meetB f t g u)]) ?_ rfl ⟨rfl, ?_⟩
    · simp [results, Tryz.results59, go_sem, meetF, meetT, meetB]
      omega
    · repeat (first | exact Below.refl _ _ | refine Below.alloc ?_ (by simp; omega) _ | refine Below.alloc ?_ (by simp) _)
theorem rMeet_any (f t g u : Int) (w : World) :
    Calls Tryz.prog 59 #[.agg #[.int .u32 f, .int .u32 t], .agg #[.int .u32 g, .int .u32 u]] w fun e w' => e = .returned (.tuple #[.agg #[.int .u32 (meetF f t g u), .int .u32 (meetT f t g u)], .bool (meetB f t g u)]) ∧ Below w.heap.size w w' := by
  by_cases ha : t < f
  · exact rMeet_a f t g u w ha
  by_cases hb : f ≤ t ∧ u < g
  · exact rMeet_b f t g u w hb
  by_cases haay : f ≤ t ∧ g ≤ u ∧ f < g ∧ t ≤ u ∧ g ≤ t
  · exact rMeet_aay f t g u w haay
  by_cases haan : f ≤ t ∧ g ≤ u ∧ f < g ∧ t ≤ u ∧ t < g
  · exact rMeet_aan f t g u w haan
  by_cases haby : f ≤ t ∧ g ≤ u ∧ f < g ∧ u < t ∧ g ≤ u
  · exact rMeet_aby f t g u w haby
  by_cases habn : f ≤ t ∧ g ≤ u ∧ f < g ∧ u < t ∧ u < g
  · exact rMeet_abn f t g u w habn
  by_cases hbay : f ≤ t ∧ g ≤ u ∧ g ≤ f ∧ t ≤ u ∧ f ≤ t
  · exact rMeet_bay f t g u w hbay
  by_cases hban : f ≤ t ∧ g ≤ u ∧ g ≤ f ∧ t ≤ u ∧ t < f
  · exact rMeet_ban f t g u w hban
  by_cases hbby : f ≤ t ∧ g ≤ u ∧ g ≤ f ∧ u < t ∧ f ≤ u
  · exact rMeet_bby f t g u w hbby
  by_cases hbbn : f ≤ t ∧ g ≤ u ∧ g ≤ f ∧ u < t ∧ u < f
  · exact rMeet_bbn f t g u w hbbn
  exfalso; omega

end Go.Proofs.YtmdepkehpohgeaaGreat.Reach
/- The chapter's examples: awake. -/
namespace Go.Proofs.YtmdepkehpohgeaaGreat.Reach
open Go.RowKit
set_option linter.unusedVariables false

theorem alloc_keep {w : World} {a : Addr} {v : Value} (h : w.cell? a = some v) (o : Obj) : (w.alloc o).cell? a = some v := cell_keep ((Below.refl _ _).alloc (Nat.le_refl _) o) h
/-- A struct of two in a block. -/
def Two (w : World) (b : Nat) (x y : Int) : Prop := w.cell? ⟨b, 0, none⟩ = some (.int .u32 x) ∧ w.cell? ⟨b, 1, none⟩ = some (.int .u32 y)
theorem Two.keep {w1 w' : World} {b : Nat} {x y : Int} (h : Two w1 b x y) (hb : Below w1.heap.size w1 w') : Two w' b x y := ⟨cell_keep hb h.1, cell_keep hb h.2⟩
theorem Two.alloc {w : World} {b : Nat} {x y : Int} (h : Two w b x y) (o : Obj) : Two (w.alloc o) b x y := ⟨alloc_keep h.1 o, alloc_keep h.2 o⟩
theorem two_new (w : World) (x y : Int) (t : TypeId) : Two (w.alloc (.cells #[.int .u32 x, .int .u32 y] t)) w.heap.size x y :=
  ⟨World.cell?_alloc_at _ _ _ 0 rfl, World.cell?_alloc_at _ _ _ 1 rfl⟩
theorem Of_val (a n x y : Int) (b : Bool) (w : World) (ha : 0 ≤ a) (ha' : a < 4294967296) (hn : -9223372036854775808 ≤ n) (hn' : n ≤ 9223372036854775807) (hx : ofF a n = x) (hy : ofT a n = y) (hb : ofB a n = b) :
    Calls Tryz.prog 115 #[.int .u32 a, .int .i64 n] w fun e w' => e = .returned (.tuple #[.agg #[.int .u32 x, .int .u32 y], .bool b]) ∧ Below w.heap.size w w' := by
  subst hx hy hb; exact Of_any a n w ha ha' hn hn'
end Go.Proofs.YtmdepkehpohgeaaGreat.Reach
/- What lies in both, which lies in which, which stands ahead: the package's answers are the document's. -/
namespace Go.Proofs.YtmdepkehpohgeaaGreat.Reach
open Go.RowKit
set_option linter.unusedVariables false

theorem rMeet_val (f t g u x y : Int) (b : Bool) (w : World) (hx : meetF f t g u = x) (hy : meetT f t g u = y) (hb : meetB f t g u = b) :
    Calls Tryz.prog 59 #[.agg #[.int .u32 f, .int .u32 t], .agg #[.int .u32 g, .int .u32 u]] w fun e w' => e = .returned (.tuple #[.agg #[.int .u32 x, .int .u32 y], .bool b]) ∧ Below w.heap.size w w' := by
  subst hx hy hb; exact rMeet_any f t g u w
end Go.Proofs.YtmdepkehpohgeaaGreat.Reach
/- One reach: the package's answers are the document's: the walk of ReachOne. -/
namespace Go.Proofs.YtmdepkehpohgeaaGreat.Reach
open Go.RowKit
set_option linter.unusedVariables false

theorem rOf_val (a n x y : Int) (b : Bool) (w : World) (ha : 0 ≤ a) (ha' : a < 4294967296) (hn : -9223372036854775808 ≤ n) (hn' : n ≤ 9223372036854775807) (hx : ofF a n = x) (hy : ofT a n = y) (hb : ofB a n = b) :
    Calls Tryz.prog 73 #[.int .u32 a, .int .i64 n] w fun e w' => e = .returned (.tuple #[.agg #[.int .u32 x, .int .u32 y], .bool b]) ∧ Below w.heap.size w w' := by
  subst hx hy hb; exact rOf_any a n w ha ha' hn hn'
theorem rright_val (f t : Int) (b : Bool) (w : World) (h : rightB f t = b) :
    Calls Tryz.prog 74 #[.agg #[.int .u32 f, .int .u32 t]] w fun e w' => e = .returned (.bool b) ∧ Below w.heap.size w w' := by
  subst h; exact rright_any f t w
end Go.Proofs.YtmdepkehpohgeaaGreat.Reach
