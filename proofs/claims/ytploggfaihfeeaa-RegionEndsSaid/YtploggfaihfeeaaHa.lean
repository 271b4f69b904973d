/- Plain: regions as the model holds them, what is asked of them, as truth values; a region in a block. -/
import Derived.Test.YtploggfaihfeeaaCf
import Derived.Test.YtploggfaihfeeaaRtf
import Derived.Test.YtploggfaihfeeaaRtg
namespace Go.Proofs.Ytploggfaihfeeaa.Region
open Go.RowKit Go.Proofs.Ytploggfaihfeeaa.Access
set_option linter.unusedVariables false

/-- A region as the model holds it: its eight parts. -/
abbrev reg (o : Bool) (W F T : Int) (rd wr : Bool) (K : Int) (lk : Bool) : Value := .agg #[.bool o, .int .i64 W, .int .u32 F, .int .u32 T, .bool rd, .bool wr, .int .i64 K, .bool lk]
def rankB (K : Int) : Bool := decide (0 ≤ K ∧ K ≤ 255)
/-- Right and On. -/
def standB (o : Bool) (W F T K : Int) : Bool := o && wdB W && Reach.rightB F T && rankB K
/-- None: a zero one. -/
def zeroB (o : Bool) (W F T : Int) (rd wr : Bool) (K : Int) (lk : Bool) : Bool := !o && decide (W = 0) && decide (F = 0) && decide (T = 0) && !rd && !wr && decide (K = 0) && !lk
def regB (o : Bool) (W F T : Int) (rd wr : Bool) (K : Int) (lk : Bool) : Bool := zeroB o W F T rd wr K lk || standB o W F T K
/-- Has it an access? -/
def hasV (o : Bool) (W F T K W2 : Int) (r2 : Bool) (A S D : Int) : Bool := Access.rightB W2 r2 A S D && standB o W F T K && decide (W2 = W) && Reach.inB A (A + S - 1) F T
def letsV (o : Bool) (W F T : Int) (rd wr : Bool) (K W2 : Int) (r2 : Bool) (A S D : Int) : Bool := hasV o W F T K W2 r2 A S D && (if r2 then wr else rd)
def clashV (o : Bool) (W F T K : Int) (p : Bool) (V G U L : Int) : Bool := standB o W F T K && standB p V G U L && decide (W ≠ V) && Reach.meetB F T G U
def aboveV (o : Bool) (W F T K : Int) (p : Bool) (V G U L : Int) : Bool := standB o W F T K && standB p V G U L && decide (L < K)

theorem zero_off {o : Bool} {W F T : Int} {rd wr : Bool} {K : Int} {lk : Bool} (h : o = true) : zeroB o W F T rd wr K lk = false := by subst h; rfl
theorem stand_on {o : Bool} {W F T K : Int} (h : standB o W F T K = true) : o = true := by
  unfold standB at h; simp only [Bool.and_eq_true] at h; exact h.1.1.1
theorem stand_off {W F T K : Int} : standB false W F T K = false := rfl
theorem reg_on {W F T : Int} {rd wr : Bool} {K : Int} {lk : Bool} : regB true W F T rd wr K lk = standB true W F T K := rfl
theorem reg_off {W F T : Int} {rd wr : Bool} {K : Int} {lk : Bool} : regB false W F T rd wr K lk = zeroB false W F T rd wr K lk := by unfold regB; rw [stand_off, Bool.or_false]
/-- Right, and On, is what stands. -/
theorem reg_and_on {o : Bool} {W F T : Int} {rd wr : Bool} {K : Int} {lk : Bool} : (regB o W F T rd wr K lk && o) = standB o W F T K := by
  cases o
  · simp [stand_off]
  · rw [reg_on]; simp

/-- A region in a block. -/
structure Eight (w : World) (b : Nat) (o : Bool) (W F T : Int) (rd wr : Bool) (K : Int) (lk : Bool) : Prop where
  c0 : w.cell? ⟨b, 0, none⟩ = some (.bool o)
  c1 : w.cell? ⟨b, 1, none⟩ = some (.int .i64 W)
  c2 : w.cell? ⟨b, 2, none⟩ = some (.int .u32 F)
  c3 : w.cell? ⟨b, 3, none⟩ = some (.int .u32 T)
  c4 : w.cell? ⟨b, 4, none⟩ = some (.bool rd)
  c5 : w.cell? ⟨b, 5, none⟩ = some (.bool wr)
  c6 : w.cell? ⟨b, 6, none⟩ = some (.int .i64 K)
  c7 : w.cell? ⟨b, 7, none⟩ = some (.bool lk)
theorem Eight.keep {w w' : World} {b : Nat} {o : Bool} {W F T : Int} {rd wr : Bool} {K : Int} {lk : Bool} (h : Eight w b o W F T rd wr K lk) (hb : Below w.heap.size w w') : Eight w' b o W F T rd wr K lk :=
  ⟨cell_keep hb h.c0, cell_keep hb h.c1, cell_keep hb h.c2, cell_keep hb h.c3, cell_keep hb h.c4, cell_keep hb h.c5, cell_keep hb h.c6, cell_keep hb h.c7⟩
theorem Eight.alloc {w : World} {b : Nat} {o : Bool} {W F T : Int} {rd wr : Bool} {K : Int} {lk : Bool} (h : Eight w b o W F T rd wr K lk) (ob : Obj) : Eight (w.alloc ob) b o W F T rd wr K lk := h.keep ((Below.refl _ _).alloc (Nat.le_refl _) ob)
theorem eight_new (w : World) (o : Bool) (W F T : Int) (rd wr : Bool) (K : Int) (lk : Bool) (t : TypeId) : Eight (w.alloc (.cells #[.bool o, .int .i64 W, .int .u32 F, .int .u32 T, .bool rd, .bool wr, .int .i64 K, .bool lk] t)) w.heap.size o W F T rd wr K lk :=
  ⟨World.cell?_alloc_at _ _ _ 0 rfl, World.cell?_alloc_at _ _ _ 1 rfl, World.cell?_alloc_at _ _ _ 2 rfl, World.cell?_alloc_at _ _ _ 3 rfl, World.cell?_alloc_at _ _ _ 4 rfl, World.cell?_alloc_at _ _ _ 5 rfl, World.cell?_alloc_at _ _ _ 6 rfl, World.cell?_alloc_at _ _ _ 7 rfl⟩
end Go.Proofs.Ytploggfaihfeeaa.Region
