/- Contracts: what is asked of a region; one held against a zero one, part by part. -/
import Derived.Test.YtploggfaihfeeaaHa
namespace Go.Proofs.Ytploggfaihfeeaa.Region
open Go.RowKit Go.Proofs.Ytploggfaihfeeaa.Access
set_option linter.unusedVariables false

theorem on_any (o : Bool) (W F T : Int) (rd wr : Bool) (K : Int) (lk : Bool) (w : World) :
    Calls Try.prog 43 #[reg o W F T rd wr K lk] w fun e w' => e = .returned (.bool o) ∧ Below w.heap.size w w' := by
  go_enter Try.func43, Try.ntmps43
  go_wp2
  go_ret
  exact ⟨rfl, (Below.refl _ _).alloc (Nat.le_refl _) _⟩
theorem ofWorld_any (o : Bool) (W F T : Int) (rd wr : Bool) (K : Int) (lk : Bool) (b : Bool) (w : World) (hb : wdB W = b) :
    Calls Try.prog 44 #[reg o W F T rd wr K lk] w fun e w' => e = .returned (.bool b) ∧ Below w.heap.size w w' := by
  subst hb
  by_cases h : 0 ≤ W
  · have e : wdB W = decide (W < 8) := by unfold wdB; simp [h]
    rw [e]
    go_enter Try.func44, Try.ntmps44
    go_wp2
    go_ret
    exact ⟨rfl, (Below.refl _ _).alloc (Nat.le_refl _) _⟩
  · have e : wdB W = false := by unfold wdB; exact decide_eq_false (by omega)
    rw [e]
    go_enter Try.func44, Try.ntmps44
    go_wp2
    go_ret
    exact ⟨rfl, (Below.refl _ _).alloc (Nat.le_refl _) _⟩
theorem ranked_any (o : Bool) (W F T : Int) (rd wr : Bool) (K : Int) (lk : Bool) (b : Bool) (w : World) (hb : rankB K = b) :
    Calls Try.prog 46 #[reg o W F T rd wr K lk] w fun e w' => e = .returned (.bool b) ∧ Below w.heap.size w w' := by
  subst hb
  by_cases h : 0 ≤ K
  · have e : rankB K = decide (K ≤ 255) := by unfold rankB; simp [h]
    rw [e]
    go_enter Try.func46, Try.ntmps46
    go_wp2
    go_ret
    exact ⟨rfl, (Below.refl _ _).alloc (Nat.le_refl _) _⟩
  · have e : rankB K = false := by unfold rankB; exact decide_eq_false (by omega)
    rw [e]
    go_enter Try.func46, Try.ntmps46
    go_wp2
    go_ret
    exact ⟨rfl, (Below.refl _ _).alloc (Nat.le_refl _) _⟩
theorem reaches_any (o : Bool) (W F T : Int) (rd wr : Bool) (K : Int) (lk : Bool) (b : Bool) (w : World) (hb : Reach.rightB F T = b) :
    Calls Try.prog 45 #[reg o W F T rd wr K lk] w fun e w' => e = .returned (.bool b) ∧ Below w.heap.size w w' := by
  have R := fun w => Reach.Right_val F T b w hb
  clear hb
  go_enter Try.func45, Try.ntmps45
  go_wp2_with fail
  refine (R _).mono ?_
  rintro e w1 ⟨rfl, hb⟩
  have Hb := Lib.hid (((Below.refl w.heap.size w).alloc (Nat.le_refl _) _).trans (hb.mono (by simp)))
  clear hb
  go_wp2_with fail
  go_ret
  exact ⟨rfl, Hb.out⟩
theorem open_any (o : Bool) (W F T : Int) (rd wr : Bool) (K : Int) (lk : Bool) (x b : Bool) (w : World) (hb : (if x then wr else rd) = b) :
    Calls Try.prog 28 #[reg o W F T rd wr K lk, .bool x] w fun e w' => e = .returned (.bool b) ∧ Below w.heap.size w w' := by
  subst hb
  cases x
  · go_enter Try.func28, Try.ntmps28
    go_wp2
    go_ret
    exact ⟨rfl, (Below.refl _ _).alloc (Nat.le_refl _) _⟩
  · go_enter Try.func28, Try.ntmps28
    go_wp2
    go_ret
    exact ⟨rfl, (Below.refl _ _).alloc (Nat.le_refl _) _⟩

theorem none_0 (W : Int) (F : Int) (T : Int) (rd : Bool) (wr : Bool) (K : Int) (lk : Bool)  (w : World) :
    Calls Try.prog 38 #[reg true W F T rd wr K lk] w fun e w' => e = .returned (.bool false) ∧ Below w.heap.size w w' := by
  go_enter Try.func38, Try.ntmps38
  go_wp2
  go_ret
  exact ⟨rfl, (Below.refl _ _).alloc (Nat.le_refl _) _⟩
theorem none_1 (W : Int) (F : Int) (T : Int) (rd : Bool) (wr : Bool) (K : Int) (lk : Bool) (h : ¬ W = 0) (w : World) :
    Calls Try.prog 38 #[reg false W F T rd wr K lk] w fun e w' => e = .returned (.bool false) ∧ Below w.heap.size w w' := by
  go_enter Try.func38, Try.ntmps38
  go_wp2
  go_ret
  exact ⟨rfl, (Below.refl _ _).alloc (Nat.le_refl _) _⟩
theorem none_2 (F : Int) (T : Int) (rd : Bool) (wr : Bool) (K : Int) (lk : Bool) (h : ¬ F = 0) (w : World) :
    Calls Try.prog 38 #[reg false 0 F T rd wr K lk] w fun e w' => e = .returned (.bool false) ∧ Below w.heap.size w w' := by
  go_enter Try.func38, Try.ntmps38
  go_wp2
  go_ret
  exact ⟨rfl, (Below.refl _ _).alloc (Nat.le_refl _) _⟩
theorem none_3 (T : Int) (rd : Bool) (wr : Bool) (K : Int) (lk : Bool) (h : ¬ T = 0) (w : World) :
    Calls Try.prog 38 #[reg false 0 0 T rd wr K lk] w fun e w' => e = .returned (.bool false) ∧ Below w.heap.size w w' := by
  go_enter Try.func38, Try.ntmps38
  go_wp2
  go_ret
  exact ⟨rfl, (Below.refl _ _).alloc (Nat.le_refl _) _⟩
theorem none_4 (wr : Bool) (K : Int) (lk : Bool)  (w : World) :
    Calls Try.prog 38 #[reg false 0 0 0 true wr K lk] w fun e w' => e = .returned (.bool false) ∧ Below w.heap.size w w' := by
  go_enter Try.func38, Try.ntmps38
  go_wp2
  go_ret
  exact ⟨rfl, (Below.refl _ _).alloc (Nat.le_refl _) _⟩
theorem none_5 (K : Int) (lk : Bool)  (w : World) :
    Calls Try.prog 38 #[reg false 0 0 0 false true K lk] w fun e w' => e = .returned (.bool false) ∧ Below w.heap.size w w' := by
  go_enter Try.func38, Try.ntmps38
  go_wp2
  go_ret
  exact ⟨rfl, (Below.refl _ _).alloc (Nat.le_refl _) _⟩
theorem none_6 (K : Int) (lk : Bool) (h : ¬ K = 0) (w : World) :
    Calls Try.prog 38 #[reg false 0 0 0 false false K lk] w fun e w' => e = .returned (.bool false) ∧ Below w.heap.size w w' := by
  go_enter Try.func38, Try.ntmps38
  go_wp2
  go_ret
  exact ⟨rfl, (Below.refl _ _).alloc (Nat.le_refl _) _⟩
theorem none_7   (w : World) :
    Calls Try.prog 38 #[reg false 0 0 0 false false 0 true] w fun e w' => e = .returned (.bool false) ∧ Below w.heap.size w w' := by
  go_enter Try.func38, Try.ntmps38
  go_wp2
  go_ret
  exact ⟨rfl, (Below.refl _ _).alloc (Nat.le_refl _) _⟩
theorem none_8   (w : World) :
    Calls Try.prog 38 #[reg false 0 0 0 false false 0 false] w fun e w' => e = .returned (.bool true) ∧ Below w.heap.size w w' := by
  go_enter Try.func38, Try.ntmps38
  go_wp2
  go_ret
  exact ⟨rfl, (Below.refl _ _).alloc (Nat.le_refl _) _⟩
theorem zero_1 (W : Int) (F : Int) (T : Int) (rd : Bool) (wr : Bool) (K : Int) (lk : Bool) (h : ¬ W = 0) (w : World) :
    Calls Try.prog 18 #[reg false W F T rd wr K lk] w fun e w' => e = .returned (.bool false) ∧ Below w.heap.size w w' := by
  go_enter Try.func18, Try.ntmps18
  go_wp2
  go_ret
  exact ⟨rfl, (Below.refl _ _).alloc (Nat.le_refl _) _⟩
theorem zero_2 (F : Int) (T : Int) (rd : Bool) (wr : Bool) (K : Int) (lk : Bool) (h : ¬ F = 0) (w : World) :
    Calls Try.prog 18 #[reg false 0 F T rd wr K lk] w fun e w' => e = .returned (.bool false) ∧ Below w.heap.size w w' := by
  go_enter Try.func18, Try.ntmps18
  go_wp2
  go_ret
  exact ⟨rfl, (Below.refl _ _).alloc (Nat.le_refl _) _⟩
theorem zero_3 (T : Int) (rd : Bool) (wr : Bool) (K : Int) (lk : Bool) (h : ¬ T = 0) (w : World) :
    Calls Try.prog 18 #[reg false 0 0 T rd wr K lk] w fun e w' => e = .returned (.bool false) ∧ Below w.heap.size w w' := by
  go_enter Try.func18, Try.ntmps18
  go_wp2
  go_ret
  exact ⟨rfl, (Below.refl _ _).alloc (Nat.le_refl _) _⟩
theorem zero_4 (wr : Bool) (K : Int) (lk : Bool)  (w : World) :
    Calls Try.prog 18 #[reg false 0 0 0 true wr K lk] w fun e w' => e = .returned (.bool false) ∧ Below w.heap.size w w' := by
  go_enter Try.func18, Try.ntmps18
  go_wp2
  go_ret
  exact ⟨rfl, (Below.refl _ _).alloc (Nat.le_refl _) _⟩
theorem zero_5 (K : Int) (lk : Bool)  (w : World) :
    Calls Try.prog 18 #[reg false 0 0 0 false true K lk] w fun e w' => e = .returned (.bool false) ∧ Below w.heap.size w w' := by
  go_enter Try.func18, Try.ntmps18
  go_wp2
  go_ret
  exact ⟨rfl, (Below.refl _ _).alloc (Nat.le_refl _) _⟩
theorem zero_6 (K : Int) (lk : Bool) (h : ¬ K = 0) (w : World) :
    Calls Try.prog 18 #[reg false 0 0 0 false false K lk] w fun e w' => e = .returned (.bool false) ∧ Below w.heap.size w w' := by
  go_enter Try.func18, Try.ntmps18
  go_wp2
  go_ret
  exact ⟨rfl, (Below.refl _ _).alloc (Nat.le_refl _) _⟩
theorem zero_7   (w : World) :
    Calls Try.prog 18 #[reg false 0 0 0 false false 0 true] w fun e w' => e = .returned (.bool false) ∧ Below w.heap.size w w' := by
  go_enter Try.func18, Try.ntmps18
  go_wp2
  go_ret
  exact ⟨rfl, (Below.refl _ _).alloc (Nat.le_refl _) _⟩
theorem zero_8   (w : World) :
    Calls Try.prog 18 #[reg false 0 0 0 false false 0 false] w fun e w' => e = .returned (.bool true) ∧ Below w.heap.size w w' := by
  go_enter Try.func18, Try.ntmps18
  go_wp2
  go_ret
  exact ⟨rfl, (Below.refl _ _).alloc (Nat.le_refl _) _⟩
theorem none_any (o : Bool) (W F T : Int) (rd wr : Bool) (K : Int) (lk : Bool) (b : Bool) (w : World) (hb : zeroB o W F T rd wr K lk = b) :
    Calls Try.prog 38 #[reg o W F T rd wr K lk] w fun e w' => e = .returned (.bool b) ∧ Below w.heap.size w w' := by
  subst hb
  cases o
  case true => simpa [zeroB] using none_0 W F T rd wr K lk w
  by_cases hW : ¬ W = 0
  · simpa [zeroB, hW] using none_1 W F T rd wr K lk hW w
  obtain rfl := Decidable.not_not.1 hW
  clear hW
  by_cases hF : ¬ F = 0
  · simpa [zeroB, hF] using none_2 F T rd wr K lk hF w
  obtain rfl := Decidable.not_not.1 hF
  clear hF
  by_cases hT : ¬ T = 0
  · simpa [zeroB, hT] using none_3 T rd wr K lk hT w
  obtain rfl := Decidable.not_not.1 hT
  clear hT
  cases rd
  case true => simpa [zeroB] using none_4 wr K lk w
  cases wr
  case true => simpa [zeroB] using none_5 K lk w
  by_cases hK : ¬ K = 0
  · simpa [zeroB, hK] using none_6 K lk hK w
  obtain rfl := Decidable.not_not.1 hK
  clear hK
  cases lk
  case true => simpa [zeroB] using none_7  w
  simpa [zeroB] using none_8 w

theorem rzero_any (W F T : Int) (rd wr : Bool) (K : Int) (lk : Bool) (b : Bool) (w : World) (hb : zeroB false W F T rd wr K lk = b) :
    Calls Try.prog 18 #[reg false W F T rd wr K lk] w fun e w' => e = .returned (.bool b) ∧ Below w.heap.size w w' := by
  subst hb
  by_cases hW : ¬ W = 0
  · simpa [zeroB, hW] using zero_1 W F T rd wr K lk hW w
  obtain rfl := Decidable.not_not.1 hW
  clear hW
  by_cases hF : ¬ F = 0
  · simpa [zeroB, hF] using zero_2 F T rd wr K lk hF w
  obtain rfl := Decidable.not_not.1 hF
  clear hF
  by_cases hT : ¬ T = 0
  · simpa [zeroB, hT] using zero_3 T rd wr K lk hT w
  obtain rfl := Decidable.not_not.1 hT
  clear hT
  cases rd
  case true => simpa [zeroB] using zero_4 wr K lk w
  cases wr
  case true => simpa [zeroB] using zero_5 K lk w
  by_cases hK : ¬ K = 0
  · simpa [zeroB, hK] using zero_6 K lk hK w
  obtain rfl := Decidable.not_not.1 hK
  clear hK
  cases lk
  case true => simpa [zeroB] using zero_7  w
  simpa [zeroB] using zero_8 w

end Go.Proofs.Ytploggfaihfeeaa.Region
