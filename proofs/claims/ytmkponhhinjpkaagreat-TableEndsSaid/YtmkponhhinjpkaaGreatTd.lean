/- Numbered regions: order, as a comparison. -/
import Derived.Test.YtmkponhhinjpkaaGreatTc
namespace Go.Proofs.YtmkponhhinjpkaaGreat.Table
open Go.RowKit Go.Maps Go.ChangeShapes Go.WideShapes Go.ChangeAt Go.Shelf Go.Lib Go.Sort
open Go.Proofs.YtmkponhhinjpkaaGreat.Reach (Grew cmpV orV or_two)
set_option linter.unusedVariables false

theorem ret_int {k : IntKind} {a b : Int} (h : a = b) : Ending.returned (.int k a) = .returned (.int k b) := by rw [h]
theorem compare_any (x y : Int) (w : World) :
    Calls Tryz.prog 47 #[.int .i64 x, .int .i64 y] w fun e w' => e = .returned (.int .i64 (cmpV x y)) ∧ w = w' := by
  by_cases h1 : x < y
  · go_enter Tryz.func47, Tryz.ntmps47
    go_wp2
    go_ret
    exact ⟨ret_int (by simp [cmpV, h1]), rfl⟩
  · by_cases h2 : y < x
    · go_enter Tryz.func47, Tryz.ntmps47
      go_wp2
      go_ret
      exact ⟨ret_int (by unfold cmpV; rw [if_neg (by omega), if_pos (by omega)]), rfl⟩
    · go_enter Tryz.func47, Tryz.ntmps47
      go_wp2
      go_ret
      exact ⟨ret_int (by unfold cmpV; rw [if_neg (by omega), if_neg (by omega)]), rfl⟩
/-- A numbered region as the model holds it. -/
abbrev num (o : Bool) (W F T : Int) (rd wt : Bool) (K : Int) (lk : Bool) (i : Int) : Value := .agg #[.bool o, .int .i64 W, .int .u32 F, .int .u32 T, .bool rd, .bool wt, .int .i64 K, .bool lk, .int .i64 i]
def encN (x : Rg × Nat) : List Value := [.bool x.1.o, .int .i64 x.1.W, .int .u32 x.1.F, .int .u32 x.1.T, .bool x.1.rd, .bool x.1.wr, .int .i64 x.1.K, .bool x.1.lk, .int .i64 (x.2 : Nat)]
def cfV (K i L j : Int) : Int := orV (cmpV L K) (cmpV i j)
def cfN (x y : Rg × Nat) : Int := cfV x.1.K (x.2 : Nat) y.1.K (y.2 : Nat)
theorem cf_ahead (x y : Rg × Nat) : decide (cfN x y < 0) = decide (ahead x y) := by
  rw [decide_eq_decide]
  unfold cfN cfV orV cmpV ahead
  repeat' split
  all_goals omega

set_option maxRecDepth 100000 in
set_option maxHeartbeats 2000000 in
theorem order_any (o : Bool) (W F T : Int) (rd wt : Bool) (K : Int) (lk : Bool) (i : Int) (p : Bool) (V G U : Int) (re we : Bool) (L : Int) (ke : Bool) (j : Int) (w : World) :
    Calls Tryz.prog 24 #[num o W F T rd wt K lk i, num p V G U re we L ke j] w fun e w' => e = .returned (.int .i64 (cfV K i L j)) ∧ Grew w w' := by
  go_enter Tryz.func24, Tryz.ntmps24
  go_wp2_with fail
  go_region_held3 (fun w' => w'.cell? ⟨w.heap.size, 6, none⟩ = some (.int .i64 K) ∧ w'.cell? ⟨w.heap.size, 8, none⟩ = some (.int .i64 i) ∧ w'.cell? ⟨w.heap.size + 1, 6, none⟩ = some (.int .i64 L) ∧ w'.cell? ⟨w.heap.size + 1, 8, none⟩ = some (.int .i64 j)) (go_keep)
    (first | (go_at_call 47; refine (compare_any _ _ _).mono ?_; rintro e w' ⟨rfl, rfl⟩) | (go_at_call 46; refine (or_two (cmpV L K) (cmpV i j) _ _ _ ?_ ?_).mono ?_; (first | (simp [go_sem]; done) | (rw [World.cell?_drew]; exact World.cell?_alloc_at _ _ _ 0 (by simp))); (first | (simp [go_sem]; done) | (rw [World.cell?_drew]; exact World.cell?_alloc_at _ _ _ 1 (by simp))); rintro e w' ⟨rfl, rfl⟩))
  go_wp2_with fail
  go_ret
  exact ⟨rfl, by repeat (first | exact Grew.refl _ | refine Grew.drew ?_ | refine Grew.alloc ?_ _ | refine Grew.drewN ?_ _)⟩
end Go.Proofs.YtmkponhhinjpkaaGreat.Table
