/- RegionClashes: the paths joined, the walk. -/
import Derived.Test.YtploggfaihfeeaaHgA
import Derived.Test.YtploggfaihfeeaaHgB
import Derived.Test.YtploggfaihfeeaaHgC
import Derived.Test.YtploggfaihfeeaaHgD
namespace Go.Proofs.Ytploggfaihfeeaa.Region
open Go.RowKit Go.Proofs.Ytploggfaihfeeaa.Access
set_option linter.unusedVariables false

theorem clash_symm (o : Bool) (W F T K : Int) (p : Bool) (V G U L : Int) : clashV p V G U L o W F T K = clashV o W F T K p V G U L := by
  unfold clashV Reach.meetB
  rw [Int.max_comm G F, Int.min_comm U T, show decide (V ≠ W) = decide (W ≠ V) from decide_eq_decide.2 ⟨fun h e => h e.symm, fun h e => h e.symm⟩, Bool.and_comm (standB p V G U L)]
theorem clash_same (o : Bool) (W F T K : Int) (p : Bool) (G U L : Int) : clashV o W F T K p W G U L = false := by
  unfold clashV; simp
theorem clash_in {o : Bool} {W F T K : Int} {p : Bool} {V G U L n : Int} (hs : standB o W F T K = true) (ht : standB p V G U L = true) (hW : ¬ W = V) (h1 : Reach.hasB F T n = true) (h2 : Reach.hasB G U n = true) : clashV o W F T K p V G U L = true := by
  unfold clashV Reach.meetB
  rw [hs, ht, decide_eq_true hW]
  simp only [Reach.hasB, decide_eq_true_eq] at h1 h2
  rw [decide_eq_true (by omega)]
  rfl
theorem clash_has {o : Bool} {W F T K : Int} {p : Bool} {V G U L W2 : Int} {r2 : Bool} {A S D : Int} (hW : ¬ W = V) (h1 : hasV o W F T K W2 r2 A S D = true) (h2 : hasV p V G U L V r2 A S D = true) : clashV o W F T K p V G U L = true := by
  unfold hasV at h1 h2
  simp only [Bool.and_eq_true] at h1 h2
  obtain ⟨⟨⟨ha, hs⟩, _⟩, hi⟩ := h1
  obtain ⟨⟨⟨_, ht⟩, _⟩, hj⟩ := h2
  simp only [Reach.inB, decide_eq_true_eq] at hi hj
  exact clash_in (n := A) hs ht hW (decide_eq_true (by omega)) (decide_eq_true (by omega))
theorem has_stand {o : Bool} {W F T K W2 : Int} {r2 : Bool} {A S D : Int} (h : standB o W F T K = false) : hasV o W F T K W2 r2 A S D = false := by
  unfold hasV; rw [h]; simp
theorem not_reg {o : Bool} {W F T : Int} {rd wr : Bool} {K : Int} {lk : Bool} (h : regB o W F T rd wr K lk = false) : standB o W F T K = false := by
  rw [← reg_and_on (rd := rd) (wr := wr) (lk := lk), h]; rfl
theorem is_reg {W F T : Int} {rd wr : Bool} {K : Int} {lk : Bool} (h : regB true W F T rd wr K lk = true) : standB true W F T K = true := h

theorem clashes_e (o : Bool) (W F T : Int) (rd wr : Bool) (K : Int) (lk : Bool) (p : Bool) (G U : Int) (re we : Bool) (L : Int) (ke : Bool) (W2 : Int) (r2 : Bool) (A S D : Int) (z : Int) (w : World) (hA : 0 ≤ A) (hA' : A < 4294967296) (hD : 0 ≤ D) (hD' : D < 4294967296) :
    Calls Try.prog 5 #[reg o W F T rd wr K lk, reg p W G U re we L ke, acc W2 r2 A S D, .int .u32 z] w fun e w' => e = .returned (.bool true) ∧ Below w.heap.size w w' := by
  cases hr : regB o W F T rd wr K lk
  · exact cl_e0 o W F T rd wr K lk p G U re we L ke W2 r2 A S D z w (fun w => Clash_any o W F T rd wr K lk p W G U re we L ke _ w (clash_same _ _ _ _ _ _ _ _ _)) (fun w => Clash_any p W G U re we L ke o W F T rd wr K lk _ w (by rw [clash_symm]; exact (clash_same _ _ _ _ _ _ _ _ _))) (fun w => Right_any o W F T rd wr K lk _ w hr) (fun w => Has_any o W F T rd wr K lk W2 r2 A S D _ w hA hA' hD hD' (has_stand (not_reg hr)))
  cases hs : regB p W G U re we L ke
  · cases ha : hasV o W F T K W2 r2 A S D
    · exact cl_e1f o W F T rd wr K lk p G U re we L ke W2 r2 A S D z w (fun w => Clash_any o W F T rd wr K lk p W G U re we L ke _ w (clash_same _ _ _ _ _ _ _ _ _)) (fun w => Clash_any p W G U re we L ke o W F T rd wr K lk _ w (by rw [clash_symm]; exact (clash_same _ _ _ _ _ _ _ _ _))) (fun w => Right_any o W F T rd wr K lk _ w hr) (fun w => Right_any p W G U re we L ke _ w hs) (fun w => Has_any o W F T rd wr K lk W2 r2 A S D _ w hA hA' hD hD' ha)
    · exact cl_e1t o W F T rd wr K lk p G U re we L ke W2 r2 A S D z w (fun w => Clash_any o W F T rd wr K lk p W G U re we L ke _ w (clash_same _ _ _ _ _ _ _ _ _)) (fun w => Clash_any p W G U re we L ke o W F T rd wr K lk _ w (by rw [clash_symm]; exact (clash_same _ _ _ _ _ _ _ _ _))) (fun w => Right_any o W F T rd wr K lk _ w hr) (fun w => Right_any p W G U re we L ke _ w hs) (fun w => Has_any o W F T rd wr K lk W2 r2 A S D _ w hA hA' hD hD' ha) (fun w => Has_any p W G U re we L ke W r2 A S D _ w hA hA' hD hD' (has_stand (not_reg hs)))
  cases o
  · exact cl_e2 W F T rd wr K lk p G U re we L ke W2 r2 A S D z w (fun w => Clash_any false W F T rd wr K lk p W G U re we L ke _ w (clash_same _ _ _ _ _ _ _ _ _)) (fun w => Clash_any p W G U re we L ke false W F T rd wr K lk _ w (by rw [clash_symm]; exact (clash_same _ _ _ _ _ _ _ _ _))) (fun w => Right_any false W F T rd wr K lk _ w hr) (fun w => Right_any p W G U re we L ke _ w hs) (fun w => Has_any false W F T rd wr K lk W2 r2 A S D _ w hA hA' hD hD' (has_stand stand_off))
  cases p
  · cases ha : hasV true W F T K W2 r2 A S D
    · exact cl_e3f W F T rd wr K lk G U re we L ke W2 r2 A S D z w (fun w => Clash_any true W F T rd wr K lk false W G U re we L ke _ w (clash_same _ _ _ _ _ _ _ _ _)) (fun w => Clash_any false W G U re we L ke true W F T rd wr K lk _ w (by rw [clash_symm]; exact (clash_same _ _ _ _ _ _ _ _ _))) (fun w => Right_any true W F T rd wr K lk _ w hr) (fun w => Right_any false W G U re we L ke _ w hs) (fun w => Has_any true W F T rd wr K lk W2 r2 A S D _ w hA hA' hD hD' ha)
    · exact cl_e3t W F T rd wr K lk G U re we L ke W2 r2 A S D z w (fun w => Clash_any true W F T rd wr K lk false W G U re we L ke _ w (clash_same _ _ _ _ _ _ _ _ _)) (fun w => Clash_any false W G U re we L ke true W F T rd wr K lk _ w (by rw [clash_symm]; exact (clash_same _ _ _ _ _ _ _ _ _))) (fun w => Right_any true W F T rd wr K lk _ w hr) (fun w => Right_any false W G U re we L ke _ w hs) (fun w => Has_any true W F T rd wr K lk W2 r2 A S D _ w hA hA' hD hD' ha) (fun w => Has_any false W G U re we L ke W r2 A S D _ w hA hA' hD hD' (has_stand stand_off))
  cases h1 : Reach.hasB F T z
  case false =>
    cases ha : hasV true W F T K W2 r2 A S D
    · exact cl_e4f W F T rd wr K lk G U re we L ke W2 r2 A S D z w (fun w => Clash_any true W F T rd wr K lk true W G U re we L ke _ w (clash_same _ _ _ _ _ _ _ _ _)) (fun w => Clash_any true W G U re we L ke true W F T rd wr K lk _ w (by rw [clash_symm]; exact (clash_same _ _ _ _ _ _ _ _ _))) (fun w => Right_any true W F T rd wr K lk _ w hr) (fun w => Right_any true W G U re we L ke _ w hs) (fun w => Reach.Has_val F T z _ w h1) (fun w => Has_any true W F T rd wr K lk W2 r2 A S D _ w hA hA' hD hD' ha)
    cases hb : hasV true W G U L W r2 A S D
    · exact cl_e4tf W F T rd wr K lk G U re we L ke W2 r2 A S D z w (fun w => Clash_any true W F T rd wr K lk true W G U re we L ke _ w (clash_same _ _ _ _ _ _ _ _ _)) (fun w => Clash_any true W G U re we L ke true W F T rd wr K lk _ w (by rw [clash_symm]; exact (clash_same _ _ _ _ _ _ _ _ _))) (fun w => Right_any true W F T rd wr K lk _ w hr) (fun w => Right_any true W G U re we L ke _ w hs) (fun w => Reach.Has_val F T z _ w h1) (fun w => Has_any true W F T rd wr K lk W2 r2 A S D _ w hA hA' hD hD' ha) (fun w => Has_any true W G U re we L ke W r2 A S D _ w hA hA' hD hD' hb)
    · exact cl_e4tt W F T rd wr K lk G U re we L ke W2 r2 A S D z w (fun w => Clash_any true W F T rd wr K lk true W G U re we L ke _ w (clash_same _ _ _ _ _ _ _ _ _)) (fun w => Clash_any true W G U re we L ke true W F T rd wr K lk _ w (by rw [clash_symm]; exact (clash_same _ _ _ _ _ _ _ _ _))) (fun w => Right_any true W F T rd wr K lk _ w hr) (fun w => Right_any true W G U re we L ke _ w hs) (fun w => Reach.Has_val F T z _ w h1) (fun w => Has_any true W F T rd wr K lk W2 r2 A S D _ w hA hA' hD hD' ha) (fun w => Has_any true W G U re we L ke W r2 A S D _ w hA hA' hD hD' hb)
  cases h2 : Reach.hasB G U z
  case false =>
    cases ha : hasV true W F T K W2 r2 A S D
    · exact cl_e5f W F T rd wr K lk G U re we L ke W2 r2 A S D z w (fun w => Clash_any true W F T rd wr K lk true W G U re we L ke _ w (clash_same _ _ _ _ _ _ _ _ _)) (fun w => Clash_any true W G U re we L ke true W F T rd wr K lk _ w (by rw [clash_symm]; exact (clash_same _ _ _ _ _ _ _ _ _))) (fun w => Right_any true W F T rd wr K lk _ w hr) (fun w => Right_any true W G U re we L ke _ w hs) (fun w => Reach.Has_val F T z _ w h1) (fun w => Reach.Has_val G U z _ w h2) (fun w => Has_any true W F T rd wr K lk W2 r2 A S D _ w hA hA' hD hD' ha)
    cases hb : hasV true W G U L W r2 A S D
    · exact cl_e5tf W F T rd wr K lk G U re we L ke W2 r2 A S D z w (fun w => Clash_any true W F T rd wr K lk true W G U re we L ke _ w (clash_same _ _ _ _ _ _ _ _ _)) (fun w => Clash_any true W G U re we L ke true W F T rd wr K lk _ w (by rw [clash_symm]; exact (clash_same _ _ _ _ _ _ _ _ _))) (fun w => Right_any true W F T rd wr K lk _ w hr) (fun w => Right_any true W G U re we L ke _ w hs) (fun w => Reach.Has_val F T z _ w h1) (fun w => Reach.Has_val G U z _ w h2) (fun w => Has_any true W F T rd wr K lk W2 r2 A S D _ w hA hA' hD hD' ha) (fun w => Has_any true W G U re we L ke W r2 A S D _ w hA hA' hD hD' hb)
    · exact cl_e5tt W F T rd wr K lk G U re we L ke W2 r2 A S D z w (fun w => Clash_any true W F T rd wr K lk true W G U re we L ke _ w (clash_same _ _ _ _ _ _ _ _ _)) (fun w => Clash_any true W G U re we L ke true W F T rd wr K lk _ w (by rw [clash_symm]; exact (clash_same _ _ _ _ _ _ _ _ _))) (fun w => Right_any true W F T rd wr K lk _ w hr) (fun w => Right_any true W G U re we L ke _ w hs) (fun w => Reach.Has_val F T z _ w h1) (fun w => Reach.Has_val G U z _ w h2) (fun w => Has_any true W F T rd wr K lk W2 r2 A S D _ w hA hA' hD hD' ha) (fun w => Has_any true W G U re we L ke W r2 A S D _ w hA hA' hD hD' hb)
  cases ha : hasV true W F T K W2 r2 A S D
  · exact cl_e6f W F T rd wr K lk G U re we L ke W2 r2 A S D z w (fun w => Clash_any true W F T rd wr K lk true W G U re we L ke _ w (clash_same _ _ _ _ _ _ _ _ _)) (fun w => Clash_any true W G U re we L ke true W F T rd wr K lk _ w (by rw [clash_symm]; exact (clash_same _ _ _ _ _ _ _ _ _))) (fun w => Right_any true W F T rd wr K lk _ w hr) (fun w => Right_any true W G U re we L ke _ w hs) (fun w => Reach.Has_val F T z _ w h1) (fun w => Reach.Has_val G U z _ w h2) (fun w => Has_any true W F T rd wr K lk W2 r2 A S D _ w hA hA' hD hD' ha)
  cases hb : hasV true W G U L W r2 A S D
  · exact cl_e6tf W F T rd wr K lk G U re we L ke W2 r2 A S D z w (fun w => Clash_any true W F T rd wr K lk true W G U re we L ke _ w (clash_same _ _ _ _ _ _ _ _ _)) (fun w => Clash_any true W G U re we L ke true W F T rd wr K lk _ w (by rw [clash_symm]; exact (clash_same _ _ _ _ _ _ _ _ _))) (fun w => Right_any true W F T rd wr K lk _ w hr) (fun w => Right_any true W G U re we L ke _ w hs) (fun w => Reach.Has_val F T z _ w h1) (fun w => Reach.Has_val G U z _ w h2) (fun w => Has_any true W F T rd wr K lk W2 r2 A S D _ w hA hA' hD hD' ha) (fun w => Has_any true W G U re we L ke W r2 A S D _ w hA hA' hD hD' hb)
  · exact cl_e6tt W F T rd wr K lk G U re we L ke W2 r2 A S D z w (fun w => Clash_any true W F T rd wr K lk true W G U re we L ke _ w (clash_same _ _ _ _ _ _ _ _ _)) (fun w => Clash_any true W G U re we L ke true W F T rd wr K lk _ w (by rw [clash_symm]; exact (clash_same _ _ _ _ _ _ _ _ _))) (fun w => Right_any true W F T rd wr K lk _ w hr) (fun w => Right_any true W G U re we L ke _ w hs) (fun w => Reach.Has_val F T z _ w h1) (fun w => Reach.Has_val G U z _ w h2) (fun w => Has_any true W F T rd wr K lk W2 r2 A S D _ w hA hA' hD hD' ha) (fun w => Has_any true W G U re we L ke W r2 A S D _ w hA hA' hD hD' hb)

theorem clashes_n (o : Bool) (W F T : Int) (rd wr : Bool) (K : Int) (lk : Bool) (p : Bool) (V G U : Int) (re we : Bool) (L : Int) (ke : Bool) (W2 : Int) (r2 : Bool) (A S D : Int) (z : Int) (h : ¬ W = V) (w : World) (hA : 0 ≤ A) (hA' : A < 4294967296) (hD : 0 ≤ D) (hD' : D < 4294967296) :
    Calls Try.prog 5 #[reg o W F T rd wr K lk, reg p V G U re we L ke, acc W2 r2 A S D, .int .u32 z] w fun e w' => e = .returned (.bool true) ∧ Below w.heap.size w w' := by
  cases hr : regB o W F T rd wr K lk
  · exact cl_n0 o W F T rd wr K lk p V G U re we L ke W2 r2 A S D z _ h w (fun w => Clash_any o W F T rd wr K lk p V G U re we L ke _ w rfl) (fun w => Clash_any p V G U re we L ke o W F T rd wr K lk _ w (by rw [clash_symm])) (fun w => Right_any o W F T rd wr K lk _ w hr) (fun w => Has_any o W F T rd wr K lk W2 r2 A S D _ w hA hA' hD hD' (has_stand (not_reg hr)))
  cases hs : regB p V G U re we L ke
  · cases ha : hasV o W F T K W2 r2 A S D
    · exact cl_n1f o W F T rd wr K lk p V G U re we L ke W2 r2 A S D z _ h w (fun w => Clash_any o W F T rd wr K lk p V G U re we L ke _ w rfl) (fun w => Clash_any p V G U re we L ke o W F T rd wr K lk _ w (by rw [clash_symm])) (fun w => Right_any o W F T rd wr K lk _ w hr) (fun w => Right_any p V G U re we L ke _ w hs) (fun w => Has_any o W F T rd wr K lk W2 r2 A S D _ w hA hA' hD hD' ha)
    · exact cl_n1t o W F T rd wr K lk p V G U re we L ke W2 r2 A S D z _ h w (fun w => Clash_any o W F T rd wr K lk p V G U re we L ke _ w rfl) (fun w => Clash_any p V G U re we L ke o W F T rd wr K lk _ w (by rw [clash_symm])) (fun w => Right_any o W F T rd wr K lk _ w hr) (fun w => Right_any p V G U re we L ke _ w hs) (fun w => Has_any o W F T rd wr K lk W2 r2 A S D _ w hA hA' hD hD' ha) (fun w => Has_any p V G U re we L ke V r2 A S D _ w hA hA' hD hD' (has_stand (not_reg hs)))
  cases o
  · exact cl_n2 W F T rd wr K lk p V G U re we L ke W2 r2 A S D z _ h w (fun w => Clash_any false W F T rd wr K lk p V G U re we L ke _ w rfl) (fun w => Clash_any p V G U re we L ke false W F T rd wr K lk _ w (by rw [clash_symm])) (fun w => Right_any false W F T rd wr K lk _ w hr) (fun w => Right_any p V G U re we L ke _ w hs) (fun w => Has_any false W F T rd wr K lk W2 r2 A S D _ w hA hA' hD hD' (has_stand stand_off))
  cases p
  · cases ha : hasV true W F T K W2 r2 A S D
    · exact cl_n3f W F T rd wr K lk V G U re we L ke W2 r2 A S D z _ h w (fun w => Clash_any true W F T rd wr K lk false V G U re we L ke _ w rfl) (fun w => Clash_any false V G U re we L ke true W F T rd wr K lk _ w (by rw [clash_symm])) (fun w => Right_any true W F T rd wr K lk _ w hr) (fun w => Right_any false V G U re we L ke _ w hs) (fun w => Has_any true W F T rd wr K lk W2 r2 A S D _ w hA hA' hD hD' ha)
    · exact cl_n3t W F T rd wr K lk V G U re we L ke W2 r2 A S D z _ h w (fun w => Clash_any true W F T rd wr K lk false V G U re we L ke _ w rfl) (fun w => Clash_any false V G U re we L ke true W F T rd wr K lk _ w (by rw [clash_symm])) (fun w => Right_any true W F T rd wr K lk _ w hr) (fun w => Right_any false V G U re we L ke _ w hs) (fun w => Has_any true W F T rd wr K lk W2 r2 A S D _ w hA hA' hD hD' ha) (fun w => Has_any false V G U re we L ke V r2 A S D _ w hA hA' hD hD' (has_stand stand_off))
  cases h1 : Reach.hasB F T z
  case false =>
    cases ha : hasV true W F T K W2 r2 A S D
    · exact cl_n4f W F T rd wr K lk V G U re we L ke W2 r2 A S D z _ h w (fun w => Clash_any true W F T rd wr K lk true V G U re we L ke _ w rfl) (fun w => Clash_any true V G U re we L ke true W F T rd wr K lk _ w (by rw [clash_symm])) (fun w => Right_any true W F T rd wr K lk _ w hr) (fun w => Right_any true V G U re we L ke _ w hs) (fun w => Reach.Has_val F T z _ w h1) (fun w => Has_any true W F T rd wr K lk W2 r2 A S D _ w hA hA' hD hD' ha)
    cases hb : hasV true V G U L V r2 A S D
    · exact cl_n4tf W F T rd wr K lk V G U re we L ke W2 r2 A S D z _ h w (fun w => Clash_any true W F T rd wr K lk true V G U re we L ke _ w rfl) (fun w => Clash_any true V G U re we L ke true W F T rd wr K lk _ w (by rw [clash_symm])) (fun w => Right_any true W F T rd wr K lk _ w hr) (fun w => Right_any true V G U re we L ke _ w hs) (fun w => Reach.Has_val F T z _ w h1) (fun w => Has_any true W F T rd wr K lk W2 r2 A S D _ w hA hA' hD hD' ha) (fun w => Has_any true V G U re we L ke V r2 A S D _ w hA hA' hD hD' hb)
    · exact cl_n4tt W F T rd wr K lk V G U re we L ke W2 r2 A S D z h w (fun w => Clash_any true W F T rd wr K lk true V G U re we L ke _ w (clash_has h ha hb)) (fun w => Clash_any true V G U re we L ke true W F T rd wr K lk _ w (by rw [clash_symm]; exact (clash_has h ha hb))) (fun w => Right_any true W F T rd wr K lk _ w hr) (fun w => Right_any true V G U re we L ke _ w hs) (fun w => Reach.Has_val F T z _ w h1) (fun w => Has_any true W F T rd wr K lk W2 r2 A S D _ w hA hA' hD hD' ha) (fun w => Has_any true V G U re we L ke V r2 A S D _ w hA hA' hD hD' hb)
  cases h2 : Reach.hasB G U z
  case false =>
    cases ha : hasV true W F T K W2 r2 A S D
    · exact cl_n5f W F T rd wr K lk V G U re we L ke W2 r2 A S D z _ h w (fun w => Clash_any true W F T rd wr K lk true V G U re we L ke _ w rfl) (fun w => Clash_any true V G U re we L ke true W F T rd wr K lk _ w (by rw [clash_symm])) (fun w => Right_any true W F T rd wr K lk _ w hr) (fun w => Right_any true V G U re we L ke _ w hs) (fun w => Reach.Has_val F T z _ w h1) (fun w => Reach.Has_val G U z _ w h2) (fun w => Has_any true W F T rd wr K lk W2 r2 A S D _ w hA hA' hD hD' ha)
    cases hb : hasV true V G U L V r2 A S D
    · exact cl_n5tf W F T rd wr K lk V G U re we L ke W2 r2 A S D z _ h w (fun w => Clash_any true W F T rd wr K lk true V G U re we L ke _ w rfl) (fun w => Clash_any true V G U re we L ke true W F T rd wr K lk _ w (by rw [clash_symm])) (fun w => Right_any true W F T rd wr K lk _ w hr) (fun w => Right_any true V G U re we L ke _ w hs) (fun w => Reach.Has_val F T z _ w h1) (fun w => Reach.Has_val G U z _ w h2) (fun w => Has_any true W F T rd wr K lk W2 r2 A S D _ w hA hA' hD hD' ha) (fun w => Has_any true V G U re we L ke V r2 A S D _ w hA hA' hD hD' hb)
    · exact cl_n5tt W F T rd wr K lk V G U re we L ke W2 r2 A S D z h w (fun w => Clash_any true W F T rd wr K lk true V G U re we L ke _ w (clash_has h ha hb)) (fun w => Clash_any true V G U re we L ke true W F T rd wr K lk _ w (by rw [clash_symm]; exact (clash_has h ha hb))) (fun w => Right_any true W F T rd wr K lk _ w hr) (fun w => Right_any true V G U re we L ke _ w hs) (fun w => Reach.Has_val F T z _ w h1) (fun w => Reach.Has_val G U z _ w h2) (fun w => Has_any true W F T rd wr K lk W2 r2 A S D _ w hA hA' hD hD' ha) (fun w => Has_any true V G U re we L ke V r2 A S D _ w hA hA' hD hD' hb)
  cases ha : hasV true W F T K W2 r2 A S D
  · exact cl_n6f W F T rd wr K lk V G U re we L ke W2 r2 A S D z h w (fun w => Clash_any true W F T rd wr K lk true V G U re we L ke _ w (clash_in (is_reg hr) (is_reg hs) h h1 h2)) (fun w => Clash_any true V G U re we L ke true W F T rd wr K lk _ w (by rw [clash_symm]; exact (clash_in (is_reg hr) (is_reg hs) h h1 h2))) (fun w => Right_any true W F T rd wr K lk _ w hr) (fun w => Right_any true V G U re we L ke _ w hs) (fun w => Reach.Has_val F T z _ w h1) (fun w => Reach.Has_val G U z _ w h2) (fun w => Has_any true W F T rd wr K lk W2 r2 A S D _ w hA hA' hD hD' ha)
  cases hb : hasV true V G U L V r2 A S D
  · exact cl_n6tf W F T rd wr K lk V G U re we L ke W2 r2 A S D z h w (fun w => Clash_any true W F T rd wr K lk true V G U re we L ke _ w (clash_in (is_reg hr) (is_reg hs) h h1 h2)) (fun w => Clash_any true V G U re we L ke true W F T rd wr K lk _ w (by rw [clash_symm]; exact (clash_in (is_reg hr) (is_reg hs) h h1 h2))) (fun w => Right_any true W F T rd wr K lk _ w hr) (fun w => Right_any true V G U re we L ke _ w hs) (fun w => Reach.Has_val F T z _ w h1) (fun w => Reach.Has_val G U z _ w h2) (fun w => Has_any true W F T rd wr K lk W2 r2 A S D _ w hA hA' hD hD' ha) (fun w => Has_any true V G U re we L ke V r2 A S D _ w hA hA' hD hD' hb)
  · exact cl_n6tt W F T rd wr K lk V G U re we L ke W2 r2 A S D z h w (fun w => Clash_any true W F T rd wr K lk true V G U re we L ke _ w (clash_has h ha hb)) (fun w => Clash_any true V G U re we L ke true W F T rd wr K lk _ w (by rw [clash_symm]; exact (clash_has h ha hb))) (fun w => Right_any true W F T rd wr K lk _ w hr) (fun w => Right_any true V G U re we L ke _ w hs) (fun w => Reach.Has_val F T z _ w h1) (fun w => Reach.Has_val G U z _ w h2) (fun w => Has_any true W F T rd wr K lk W2 r2 A S D _ w hA hA' hD hD' ha) (fun w => Has_any true V G U re we L ke V r2 A S D _ w hA hA' hD hD' hb)

theorem clashes_walk (o : Bool) (W F T : Int) (rd wr : Bool) (K : Int) (lk : Bool) (p : Bool) (V G U : Int) (re we : Bool) (L : Int) (ke : Bool) (W2 : Int) (r2 : Bool) (A S D : Int) (z : Int) (w : World) (hW : (Lit.int .i64 W).wf = true) (hF : (Lit.int .u32 F).wf = true) (hT : (Lit.int .u32 T).wf = true) (hK : (Lit.int .i64 K).wf = true) (hV : (Lit.int .i64 V).wf = true) (hG : (Lit.int .u32 G).wf = true) (hU : (Lit.int .u32 U).wf = true) (hL : (Lit.int .i64 L).wf = true)
    (hW2 : (Lit.int .i64 W2).wf = true) (hA : (Lit.int .u32 A).wf = true) (hS : (Lit.int .i64 S).wf = true) (hD : (Lit.int .u32 D).wf = true) (hz : (Lit.int .u32 z).wf = true) :
    Calls Try.prog 5 #[reg o W F T rd wr K lk, reg p V G U re we L ke, acc W2 r2 A S D, .int .u32 z] w fun e w' => e = .returned (.bool true) ∧ Below w.heap.size w w' := by
  have a := bounds_u32 hA
  have d := bounds_u32 hD
  by_cases h : ¬ W = V
  · exact clashes_n o W F T rd wr K lk p V G U re we L ke W2 r2 A S D z h w (by omega) (by omega) (by omega) (by omega)
  · obtain rfl := Decidable.not_not.1 h
    exact clashes_e o W F T rd wr K lk p G U re we L ke W2 r2 A S D z w (by omega) (by omega) (by omega) (by omega)
end Go.Proofs.Ytploggfaihfeeaa.Region
