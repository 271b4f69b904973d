/- Put together: Ha, Hb, Hc, Hd, He. -/
import Derived.Test.YtmkponhhinjpkaaGreatAc
import Derived.Test.YtmkponhhinjpkaaGreatRt
/- Plain: regions as the model holds them, what is asked of them, as truth values; a region in a block. -/
namespace Go.Proofs.YtmkponhhinjpkaaGreat.Region
open Go.RowKit Go.Proofs.YtmkponhhinjpkaaGreat.Access
set_option linter.unusedVariables false

/-- A region as the model holds it: its eight parts. -/
abbrev reg (o : Bool) (W F T : Int) (rd wr : Bool) (K : Int) (lk : Bool) : Value := .agg #[.bool o, .int .i64 W, .int .u32 F, .int .u32 T, .bool rd, .bool wr, .int .i64 K, .bool lk]
def rankB (K : Int) : Bool := decide (0 ≤ K ∧ K ≤ 255)
/-- Right and On. -/
def standB (o : Bool) (W F T K : Int) : Bool := o && wdB W && Reach.rightB F T && rankB K
/-- None: a zero one. -/
def zeroB (o : Bool) (W F T : Int) (rd wr : Bool) (K : Int) (lk : Bool) : Bool := !o && decide (W = 0) && decide (F = 0) && decide (T = 0) && !rd && !wr && decide (K = 0) && !lk
def regB (o : Bool) (W F T : Int) (rd wr : Bool) (K : Int) (lk : Bool) : Bool := zeroB o W F T rd wr K lk || standB o W F T K
/-- Has it an access? -/
def hasV (o : Bool) (W F T K W2 : Int) (r2 : Bool) (A S D : Int) : Bool := Access.rightB W2 r2 A S D && standB o W F T K && decide (W2 = W) && Reach.inB A (A + S - 1) F T
def letsV (o : Bool) (W F T : Int) (rd wr : Bool) (K W2 : Int) (r2 : Bool) (A S D : Int) : Bool := hasV o W F T K W2 r2 A S D && (if r2 then wr else rd)
def clashV (o : Bool) (W F T K : Int) (p : Bool) (V G U L : Int) : Bool := standB o W F T K && standB p V G U L && decide (W ≠ V) && Reach.meetB F T G U
def aboveV (o : Bool) (W F T K : Int) (p : Bool) (V G U L : Int) : Bool := standB o W F T K && standB p V G U L && decide (L < K)

theorem zero_off {o : Bool} {W F T : Int} {rd wr : Bool} {K : Int} {lk : Bool} (h : o = true) : zeroB o W F T rd wr K lk = false := by subst h; rfl
theorem stand_on {o : Bool} {W F T K : Int} (h : standB o W F T K = true) : o = true := by
  unfold standB at h; simp only [Bool.and_eq_true] at h; exact h.1.1.1
theorem stand_off {W F T K : Int} : standB false W F T K = false := rfl
theorem reg_on {W F T : Int} {rd wr : Bool} {K : Int} {lk : Bool} : regB true W F T rd wr K lk = standB true W F T K := rfl
theorem reg_off {W F T : Int} {rd wr : Bool} {K : Int} {lk : Bool} : regB false W F T rd wr K lk = zeroB false W F T rd wr K lk := by unfold regB; rw [stand_off, Bool.or_false]
/-- Right, and On, is what stands. -/
theorem reg_and_on {o : Bool} {W F T : Int} {rd wr : Bool} {K : Int} {lk : Bool} : (regB o W F T rd wr K lk && o) = standB o W F T K := by
  cases o
  · simp [stand_off]
  · rw [reg_on]; simp

/-- A region in a block. -/
structure Eight (w : World) (b : Nat) (o : Bool) (W F T : Int) (rd wr : Bool) (K : Int) (lk : Bool) : Prop where
  c0 : w.cell? ⟨b, 0, none⟩ = some (.bool o)
  c1 : w.cell? ⟨b, 1, none⟩ = some (.int .i64 W)
  c2 : w.cell? ⟨b, 2, none⟩ = some (.int .u32 F)
  c3 : w.cell? ⟨b, 3, none⟩ = some (.int .u32 T)
  c4 : w.cell? ⟨b, 4, none⟩ = some (.bool rd)
  c5 : w.cell? ⟨b, 5, none⟩ = some (.bool wr)
  c6 : w.cell? ⟨b, 6, none⟩ = some (.int .i64 K)
  c7 : w.cell? ⟨b, 7, none⟩ = some (.bool lk)
theorem Eight.keep {w w' : World} {b : Nat} {o : Bool} {W F T : Int} {rd wr : Bool} {K : Int} {lk : Bool} (h : Eight w b o W F T rd wr K lk) (hb : Below w.heap.size w w') : Eight w' b o W F T rd wr K lk :=
  ⟨cell_keep hb h.c0, cell_keep hb h.c1, cell_keep hb h.c2, cell_keep hb h.c3, cell_keep hb h.c4, cell_keep hb h.c5, cell_keep hb h.c6, cell_keep hb h.c7⟩
theorem Eight.alloc {w : World} {b : Nat} {o : Bool} {W F T : Int} {rd wr : Bool} {K : Int} {lk : Bool} (h : Eight w b o W F T rd wr K lk) (ob : Obj) : Eight (w.alloc ob) b o W F T rd wr K lk := h.keep ((Below.refl _ _).alloc (Nat.le_refl _) ob)
theorem eight_new (w : World) (o : Bool) (W F T : Int) (rd wr : Bool) (K : Int) (lk : Bool) (t : TypeId) : Eight (w.alloc (.cells #[.bool o, .int .i64 W, .int .u32 F, .int .u32 T, .bool rd, .bool wr, .int .i64 K, .bool lk] t)) w.heap.size o W F T rd wr K lk :=
  ⟨World.cell?_alloc_at _ _ _ 0 rfl, World.cell?_alloc_at _ _ _ 1 rfl, World.cell?_alloc_at _ _ _ 2 rfl, World.cell?_alloc_at _ _ _ 3 rfl, World.cell?_alloc_at _ _ _ 4 rfl, World.cell?_alloc_at _ _ _ 5 rfl, World.cell?_alloc_at _ _ _ 6 rfl, World.cell?_alloc_at _ _ _ 7 rfl⟩
end Go.Proofs.YtmkponhhinjpkaaGreat.Region
/- Contracts: what is asked of a region; one held against a zero one, part by part. -/
namespace Go.Proofs.YtmkponhhinjpkaaGreat.Region
open Go.RowKit Go.Proofs.YtmkponhhinjpkaaGreat.Access
set_option linter.unusedVariables false

theorem on_any (o : Bool) (W F T : Int) (rd wr : Bool) (K : Int) (lk : Bool) (w : World) :
    Calls Tryz.prog 118 #[reg o W F T rd wr K lk] w fun e w' => e = .returned (.bool o) ∧ Below w.heap.size w w' := by
  go_enter Tryz.func118, Tryz.ntmps118
  go_wp2
  go_ret
  exact ⟨rfl, (Below.refl _ _).alloc (Nat.le_refl _) _⟩
theorem ofWorld_any (o : Bool) (W F T : Int) (rd wr : Bool) (K : Int) (lk : Bool) (b : Bool) (w : World) (hb : wdB W = b) :
    Calls Tryz.prog 119 #[reg o W F T rd wr K lk] w fun e w' => e = .returned (.bool b) ∧ Below w.heap.size w w' := by
  subst hb
  by_cases h : 0 ≤ W
  · have e : wdB W = decide (W < 8) := by unfold wdB; simp [h]
    rw [e]
    go_enter Tryz.func119, Tryz.ntmps119
    go_wp2
    go_ret
    exact ⟨rfl, (Below.refl _ _).alloc (Nat.le_refl _) _⟩
  · have e : wdB W = false := by unfold wdB; exact decide_eq_false (by omega)
    rw [e]
    go_enter Tryz.func119, Tryz.ntmps119
    go_wp2
    go_ret
    exact ⟨rfl, (Below.refl _ _).alloc (Nat.le_refl _) _⟩
theorem ranked_any (o : Bool) (W F T : Int) (rd wr : Bool) (K : Int) (lk : Bool) (b : Bool) (w : World) (hb : rankB K = b) :
    Calls Tryz.prog 121 #[reg o W F T rd wr K lk] w fun e w' => e = .returned (.bool b) ∧ Below w.heap.size w w' := by
  subst hb
  by_cases h : 0 ≤ K
  · have e : rankB K = decide (K ≤ 255) := by unfold rankB; simp [h]
    rw [e]
    go_enter Tryz.func121, Tryz.ntmps121
    go_wp2
    go_ret
    exact ⟨rfl, (Below.refl _ _).alloc (Nat.le_refl _) _⟩
  · have e : rankB K = false := by unfold rankB; exact decide_eq_false (by omega)
    rw [e]
    go_enter Tryz.func121, Tryz.ntmps121
    go_wp2
    go_ret
    exact ⟨rfl, (Below.refl _ _).alloc (Nat.le_refl _) _⟩
theorem reaches_any (o : Bool) (W F T : Int) (rd wr : Bool) (K : Int) (lk : Bool) (b : Bool) (w : World) (hb : Reach.rightB F T = b) :
    Calls Tryz.prog 120 #[reg o W F T rd wr K lk] w fun e w' => e = .returned (.bool b) ∧ Below w.heap.size w w' := by
  have R := fun w => Reach.Right_val F T b w hb
  clear hb
  go_enter Tryz.func120, Tryz.ntmps120
  go_wp2_with fail
  refine (R _).mono ?_
  rintro e w1 ⟨rfl, hb⟩
  have Hb := Lib.hid (((Below.refl w.heap.size w).alloc (Nat.le_refl _) _).trans (hb.mono (by simp)))
  clear hb
  go_wp2_with fail
  go_ret
  exact ⟨rfl, Hb.out⟩
theorem open_any (o : Bool) (W F T : Int) (rd wr : Bool) (K : Int) (lk : Bool) (x b : Bool) (w : World) (hb : (if x then wr else rd) = b) :
    Calls Tryz.prog 77 #[reg o W F T rd wr K lk, .bool x] w fun e w' => e = .returned (.bool b) ∧ Below w.heap.size w w' := by
  subst hb
  cases x
  · go_enter Tryz.func77, Tryz.ntmps77
    go_wp2
    go_ret
    exact ⟨rfl, (Below.refl _ _).alloc (Nat.le_refl _) _⟩
  · go_enter Tryz.func77, Tryz.ntmps77
    go_wp2
    go_ret
    exact ⟨rfl, (Below.refl _ _).alloc (Nat.le_refl _) _⟩

theorem none_0 (W : Int) (F : Int) (T : Int) (rd : Bool) (wr : Bool) (K : Int) (lk : Bool)  (w : World) :
    Calls Tryz.prog 100 #[reg true W F T rd wr K lk] w fun e w' => e = .returned (.bool false) ∧ Below w.heap.size w w' := by
  go_enter Tryz.func100, Tryz.ntmps100
  go_wp2
  go_ret
  exact ⟨rfl, (Below.refl _ _).alloc (Nat.le_refl _) _⟩
theorem none_1 (W : Int) (F : Int) (T : Int) (rd : Bool) (wr : Bool) (K : Int) (lk : Bool) (h : ¬ W = 0) (w : World) :
    Calls Tryz.prog 100 #[reg false W F T rd wr K lk] w fun e w' => e = .returned (.bool false) ∧ Below w.heap.size w w' := by
  go_enter Tryz.func100, Tryz.ntmps100
  go_wp2
  go_ret
  exact ⟨rfl, (Below.refl _ _).alloc (Nat.le_refl _) _⟩
theorem none_2 (F : Int) (T : Int) (rd : Bool) (wr : Bool) (K : Int) (lk : Bool) (h : ¬ F = 0) (w : World) :
    Calls Tryz.prog 100 #[reg false 0 F T rd wr K lk] w fun e w' => e = .returned (.bool false) ∧ Below w.heap.size w w' := by
  go_enter Tryz.func100, Tryz.ntmps100
  go_wp2
  go_ret
  exact ⟨rfl, (Below.refl _ _).alloc (Nat.le_refl _) _⟩
theorem none_3 (T : Int) (rd : Bool) (wr : Bool) (K : Int) (lk : Bool) (h : ¬ T = 0) (w : World) :
    Calls Tryz.prog 100 #[reg false 0 0 T rd wr K lk] w fun e w' => e = .returned (.bool false) ∧ Below w.heap.size w w' := by
  go_enter Tryz.func100, Tryz.ntmps100
  go_wp2
  go_ret
  exact ⟨rfl, (Below.refl _ _).alloc (Nat.le_refl _) _⟩
theorem none_4 (wr : Bool) (K : Int) (lk : Bool)  (w : World) :
    Calls Tryz.prog 100 #[reg false 0 0 0 true wr K lk] w fun e w' => e = .returned (.bool false) ∧ Below w.heap.size w w' := by
  go_enter Tryz.func100, Tryz.ntmps100
  go_wp2
  go_ret
  exact ⟨rfl, (Below.refl _ _).alloc (Nat.le_refl _) _⟩
theorem none_5 (K : Int) (lk : Bool)  (w : World) :
    Calls Tryz.prog 100 #[reg false 0 0 0 false true K lk] w fun e w' => e = .returned (.bool false) ∧ Below w.heap.size w w' := by
  go_enter Tryz.func100, Tryz.ntmps100
  go_wp2
  go_ret
  exact ⟨rfl, (Below.refl _ _).alloc (Nat.le_refl _) _⟩
theorem none_6 (K : Int) (lk : Bool) (h : ¬ K = 0) (w : World) :
    Calls Tryz.prog 100 #[reg false 0 0 0 false false K lk] w fun e w' => e = .returned (.bool false) ∧ Below w.heap.size w w' := by
  go_enter Tryz.func100, Tryz.ntmps100
  go_wp2
  go_ret
  exact ⟨rfl, (Below.refl _ _).alloc (Nat.le_refl _) _⟩
theorem none_7   (w : World) :
    Calls Tryz.prog 100 #[reg false 0 0 0 false false 0 true] w fun e w' => e = .returned (.bool false) ∧ Below w.heap.size w w' := by
  go_enter Tryz.func100, Tryz.ntmps100
  go_wp2
  go_ret
  exact ⟨rfl, (Below.refl _ _).alloc (Nat.le_refl _) _⟩
theorem none_8   (w : World) :
    Calls Tryz.prog 100 #[reg false 0 0 0 false false 0 false] w fun e w' => e = .returned (.bool true) ∧ Below w.heap.size w w' := by
  go_enter Tryz.func100, Tryz.ntmps100
  go_wp2
  go_ret
  exact ⟨rfl, (Below.refl _ _).alloc (Nat.le_refl _) _⟩
theorem zero_1 (W : Int) (F : Int) (T : Int) (rd : Bool) (wr : Bool) (K : Int) (lk : Bool) (h : ¬ W = 0) (w : World) :
    Calls Tryz.prog 50 #[reg false W F T rd wr K lk] w fun e w' => e = .returned (.bool false) ∧ Below w.heap.size w w' := by
  go_enter Tryz.func50, Tryz.ntmps50
  go_wp2
  go_ret
  exact ⟨rfl, (Below.refl _ _).alloc (Nat.le_refl _) _⟩
theorem zero_2 (F : Int) (T : Int) (rd : Bool) (wr : Bool) (K : Int) (lk : Bool) (h : ¬ F = 0) (w : World) :
    Calls Tryz.prog 50 #[reg false 0 F T rd wr K lk] w fun e w' => e = .returned (.bool false) ∧ Below w.heap.size w w' := by
  go_enter Tryz.func50, Tryz.ntmps50
  go_wp2
  go_ret
  exact ⟨rfl, (Below.refl _ _).alloc (Nat.le_refl _) _⟩
theorem zero_3 (T : Int) (rd : Bool) (wr : Bool) (K : Int) (lk : Bool) (h : ¬ T = 0) (w : World) :
    Calls Tryz.prog 50 #[reg false 0 0 T rd wr K lk] w fun e w' => e = .returned (.bool false) ∧ Below w.heap.size w w' := by
  go_enter Tryz.func50, Tryz.ntmps50
  go_wp2
  go_ret
  exact ⟨rfl, (Below.refl _ _).alloc (Nat.le_refl _) _⟩
theorem zero_4 (wr : Bool) (K : Int) (lk : Bool)  (w : World) :
    Calls Tryz.prog 50 #[reg false 0 0 0 true wr K lk] w fun e w' => e = .returned (.bool false) ∧ Below w.heap.size w w' := by
  go_enter Tryz.func50, Tryz.ntmps50
  go_wp2
  go_ret
  exact ⟨rfl, (Below.refl _ _).alloc (Nat.le_refl _) _⟩
theorem zero_5 (K : Int) (lk : Bool)  (w : World) :
    Calls Tryz.prog 50 #[reg false 0 0 0 false true K lk] w fun e w' => e = .returned (.bool false) ∧ Below w.heap.size w w' := by
  go_enter Tryz.func50, Tryz.ntmps50
  go_wp2
  go_ret
  exact ⟨rfl, (Below.refl _ _).alloc (Nat.le_refl _) _⟩
theorem zero_6 (K : Int) (lk : Bool) (h : ¬ K = 0) (w : World) :
    Calls Tryz.prog 50 #[reg false 0 0 0 false false K lk] w fun e w' => e = .returned (.bool false) ∧ Below w.heap.size w w' := by
  go_enter Tryz.func50, Tryz.ntmps50
  go_wp2
  go_ret
  exact ⟨rfl, (Below.refl _ _).alloc (Nat.le_refl _) _⟩
theorem zero_7   (w : World) :
    Calls Tryz.prog 50 #[reg false 0 0 0 false false 0 true] w fun e w' => e = .returned (.bool false) ∧ Below w.heap.size w w' := by
  go_enter Tryz.func50, Tryz.ntmps50
  go_wp2
  go_ret
  exact ⟨rfl, (Below.refl _ _).alloc (Nat.le_refl _) _⟩
theorem zero_8   (w : World) :
    Calls Tryz.prog 50 #[reg false 0 0 0 false false 0 false] w fun e w' => e = .returned (.bool true) ∧ Below w.heap.size w w' := by
  go_enter Tryz.func50, Tryz.ntmps50
  go_wp2
  go_ret
  exact ⟨rfl, (Below.refl _ _).alloc (Nat.le_refl _) _⟩
theorem none_any (o : Bool) (W F T : Int) (rd wr : Bool) (K : Int) (lk : Bool) (b : Bool) (w : World) (hb : zeroB o W F T rd wr K lk = b) :
    Calls Tryz.prog 100 #[reg o W F T rd wr K lk] w fun e w' => e = .returned (.bool b) ∧ Below w.heap.size w w' := by
  subst hb
  cases o
  case true => simpa [zeroB] using none_0 W F T rd wr K lk w
  by_cases hW : ¬ W = 0
  · simpa [zeroB, hW] using none_1 W F T rd wr K lk hW w
  obtain rfl := Decidable.not_not.1 hW
  clear hW
  by_cases hF : ¬ F = 0
  · simpa [zeroB, hF] using none_2 F T rd wr K lk hF w
  obtain rfl := Decidable.not_not.1 hF
  clear hF
  by_cases hT : ¬ T = 0
  · simpa [zeroB, hT] using none_3 T rd wr K lk hT w
  obtain rfl := Decidable.not_not.1 hT
  clear hT
  cases rd
  case true => simpa [zeroB] using none_4 wr K lk w
  cases wr
  case true => simpa [zeroB] using none_5 K lk w
  by_cases hK : ¬ K = 0
  · simpa [zeroB, hK] using none_6 K lk hK w
  obtain rfl := Decidable.not_not.1 hK
  clear hK
  cases lk
  case true => simpa [zeroB] using none_7  w
  simpa [zeroB] using none_8 w

theorem rzero_any (W F T : Int) (rd wr : Bool) (K : Int) (lk : Bool) (b : Bool) (w : World) (hb : zeroB false W F T rd wr K lk = b) :
    Calls Tryz.prog 50 #[reg false W F T rd wr K lk] w fun e w' => e = .returned (.bool b) ∧ Below w.heap.size w w' := by
  subst hb
  by_cases hW : ¬ W = 0
  · simpa [zeroB, hW] using zero_1 W F T rd wr K lk hW w
  obtain rfl := Decidable.not_not.1 hW
  clear hW
  by_cases hF : ¬ F = 0
  · simpa [zeroB, hF] using zero_2 F T rd wr K lk hF w
  obtain rfl := Decidable.not_not.1 hF
  clear hF
  by_cases hT : ¬ T = 0
  · simpa [zeroB, hT] using zero_3 T rd wr K lk hT w
  obtain rfl := Decidable.not_not.1 hT
  clear hT
  cases rd
  case true => simpa [zeroB] using zero_4 wr K lk w
  cases wr
  case true => simpa [zeroB] using zero_5 K lk w
  by_cases hK : ¬ K = 0
  · simpa [zeroB, hK] using zero_6 K lk hK w
  obtain rfl := Decidable.not_not.1 hK
  clear hK
  cases lk
  case true => simpa [zeroB] using zero_7  w
  simpa [zeroB] using zero_8 w

end Go.Proofs.YtmkponhhinjpkaaGreat.Region
/- Contracts: whether a region stands, is right, both ways. -/
namespace Go.Proofs.YtmkponhhinjpkaaGreat.Region
open Go.RowKit Go.Proofs.YtmkponhhinjpkaaGreat.Access
set_option linter.unusedVariables false

/-- The row of what must hold. -/
structure Holds (w : World) (g : Nat) (v : Value) : Prop where
  c0 : w.cell? ⟨g, 0, none⟩ = some (.func (.func 118) #[v] #[])
  c1 : w.cell? ⟨g, 1, none⟩ = some (.func (.func 119) #[v] #[])
  c2 : w.cell? ⟨g, 2, none⟩ = some (.func (.func 120) #[v] #[])
  c3 : w.cell? ⟨g, 3, none⟩ = some (.func (.func 121) #[v] #[])
theorem Holds.keep {w w' : World} {g : Nat} {v : Value} (h : Holds w g v) (hb : Below w.heap.size w w') : Holds w' g v := ⟨cell_keep hb h.c0, cell_keep hb h.c1, cell_keep hb h.c2, cell_keep hb h.c3⟩
theorem holds_new (w : World) (v : Value) (o : Obj) (g : Nat) (hg : w.heap.size + 1 = g) (W0 : World)
    (hW : W0 = (w.alloc o).alloc (.cells #[.func (.func 118) #[v] #[], .func (.func 119) #[v] #[], .func (.func 120) #[v] #[], .func (.func 121) #[v] #[]] 26)) :
    Holds W0 g v ∧ Below w.heap.size w W0 := by
  subst hW
  have e : (w.alloc o).heap.size = g := by simpa using hg
  subst e
  exact ⟨⟨World.cell?_alloc_at _ _ _ 0 rfl, World.cell?_alloc_at _ _ _ 1 rfl, World.cell?_alloc_at _ _ _ 2 rfl, World.cell?_alloc_at _ _ _ 3 rfl⟩, ((Below.refl _ _).alloc (Nat.le_refl _) _).alloc (by simp) _⟩

theorem stands_1 (o : Bool) (W F T : Int) (rd wr : Bool) (K : Int) (lk : Bool) (w : World)
    (q0 : ∀ w, Calls Tryz.prog 118 #[reg o W F T rd wr K lk] w fun e w' => e = .returned (.bool false) ∧ Below w.heap.size w w') :
    Calls Tryz.prog 101 #[reg o W F T rd wr K lk] w fun e w' => e = .returned (.bool false) ∧ Below w.heap.size w w' := by
  have hmf : ∀ (fn : Fn) (first cap : Array Value) (w : World), (Instr.makeFunc fn first cap).run Tryz.prog w = .ok (.func fn first cap) w := fun _ _ _ _ => rfl
  go_enter Tryz.func101, Tryz.ntmps101
  go_wp2_with fail
  obtain ⟨v, hv⟩ : ∃ v, v = reg o W F T rd wr K lk := ⟨_, rfl⟩
  obtain ⟨W0, hW0⟩ : ∃ X : World, X = (w.alloc (.cells #[.bool o, .int .i64 W, .int .u32 F, .int .u32 T, .bool rd, .bool wr, .int .i64 K, .bool lk] 115)).alloc (.cells #[.func (.func 118) #[v] #[], .func (.func 119) #[v] #[], .func (.func 120) #[v] #[], .func (.func 121) #[v] #[]] 26) := ⟨_, rfl⟩
  have hA := holds_new w v _ _ rfl W0 hW0
  subst hv
  rw [← hW0]
  obtain ⟨g, hg⟩ : ∃ g, w.heap.size + 1 = g := ⟨_, rfl⟩
  rw [hg] at hA
  rw [hg]
  have HA := Lib.hid hA.1
  have HB := Lib.hid hA.2
  clear hA hg hW0
  refine wp_loop_rounds 5 ?_
  rw [rounds_succ]
  have d0 := HA.out.c0
  go_wp2_with fail
  refine (q0 _).mono ?_
  rintro e w1 ⟨rfl, hb⟩
  have HA1 := Lib.hid (HA.out.keep hb)
  have HB1 := Lib.hid (HB.out.trans (hb.mono HB.out.size))
  clear hb d0
  go_wp2_with fail
  go_ret
  exact ⟨rfl, HB1.out⟩

theorem stands_2 (o : Bool) (W F T : Int) (rd wr : Bool) (K : Int) (lk : Bool) (w : World)
    (q0 : ∀ w, Calls Tryz.prog 118 #[reg o W F T rd wr K lk] w fun e w' => e = .returned (.bool true) ∧ Below w.heap.size w w')
    (q1 : ∀ w, Calls Tryz.prog 119 #[reg o W F T rd wr K lk] w fun e w' => e = .returned (.bool false) ∧ Below w.heap.size w w') :
    Calls Tryz.prog 101 #[reg o W F T rd wr K lk] w fun e w' => e = .returned (.bool false) ∧ Below w.heap.size w w' := by
  have hmf : ∀ (fn : Fn) (first cap : Array Value) (w : World), (Instr.makeFunc fn first cap).run Tryz.prog w = .ok (.func fn first cap) w := fun _ _ _ _ => rfl
  go_enter Tryz.func101, Tryz.ntmps101
  go_wp2_with fail
  obtain ⟨v, hv⟩ : ∃ v, v = reg o W F T rd wr K lk := ⟨_, rfl⟩
  obtain ⟨W0, hW0⟩ : ∃ X : World, X = (w.alloc (.cells #[.bool o, .int .i64 W, .int .u32 F, .int .u32 T, .bool rd, .bool wr, .int .i64 K, .bool lk] 115)).alloc (.cells #[.func (.func 118) #[v] #[], .func (.func 119) #[v] #[], .func (.func 120) #[v] #[], .func (.func 121) #[v] #[]] 26) := ⟨_, rfl⟩
  have hA := holds_new w v _ _ rfl W0 hW0
  subst hv
  rw [← hW0]
  obtain ⟨g, hg⟩ : ∃ g, w.heap.size + 1 = g := ⟨_, rfl⟩
  rw [hg] at hA
  rw [hg]
  have HA := Lib.hid hA.1
  have HB := Lib.hid hA.2
  clear hA hg hW0
  refine wp_loop_rounds 5 ?_
  rw [rounds_succ]
  have d0 := HA.out.c0
  go_wp2_with fail
  refine (q0 _).mono ?_
  rintro e w1 ⟨rfl, hb⟩
  have HA1 := Lib.hid (HA.out.keep hb)
  have HB1 := Lib.hid (HB.out.trans (hb.mono HB.out.size))
  clear hb d0
  go_wp2_with fail
  rw [rounds_succ]
  have d1 := HA1.out.c1
  go_wp2_with fail
  refine (q1 _).mono ?_
  rintro e w2 ⟨rfl, hb⟩
  have HA2 := Lib.hid (HA1.out.keep hb)
  have HB2 := Lib.hid (HB1.out.trans (hb.mono HB1.out.size))
  clear hb d1
  go_wp2_with fail
  go_ret
  exact ⟨rfl, HB2.out⟩

theorem stands_3 (o : Bool) (W F T : Int) (rd wr : Bool) (K : Int) (lk : Bool) (w : World)
    (q0 : ∀ w, Calls Tryz.prog 118 #[reg o W F T rd wr K lk] w fun e w' => e = .returned (.bool true) ∧ Below w.heap.size w w')
    (q1 : ∀ w, Calls Tryz.prog 119 #[reg o W F T rd wr K lk] w fun e w' => e = .returned (.bool true) ∧ Below w.heap.size w w')
    (q2 : ∀ w, Calls Tryz.prog 120 #[reg o W F T rd wr K lk] w fun e w' => e = .returned (.bool false) ∧ Below w.heap.size w w') :
    Calls Tryz.prog 101 #[reg o W F T rd wr K lk] w fun e w' => e = .returned (.bool false) ∧ Below w.heap.size w w' := by
  have hmf : ∀ (fn : Fn) (first cap : Array Value) (w : World), (Instr.makeFunc fn first cap).run Tryz.prog w = .ok (.func fn first cap) w := fun _ _ _ _ => rfl
  go_enter Tryz.func101, Tryz.ntmps101
  go_wp2_with fail
  obtain ⟨v, hv⟩ : ∃ v, v = reg o W F T rd wr K lk := ⟨_, rfl⟩
  obtain ⟨W0, hW0⟩ : ∃ X : World, X = (w.alloc (.cells #[.bool o, .int .i64 W, .int .u32 F, .int .u32 T, .bool rd, .bool wr, .int .i64 K, .bool lk] 115)).alloc (.cells #[.func (.func 118) #[v] #[], .func (.func 119) #[v] #[], .func (.func 120) #[v] #[], .func (.func 121) #[v] #[]] 26) := ⟨_, rfl⟩
  have hA := holds_new w v _ _ rfl W0 hW0
  subst hv
  rw [← hW0]
  obtain ⟨g, hg⟩ : ∃ g, w.heap.size + 1 = g := ⟨_, rfl⟩
  rw [hg] at hA
  rw [hg]
  have HA := Lib.hid hA.1
  have HB := Lib.hid hA.2
  clear hA hg hW0
  refine wp_loop_rounds 5 ?_
  rw [rounds_succ]
  have d0 := HA.out.c0
  go_wp2_with fail
  refine (q0 _).mono ?_
  rintro e w1 ⟨rfl, hb⟩
  have HA1 := Lib.hid (HA.out.keep hb)
  have HB1 := Lib.hid (HB.out.trans (hb.mono HB.out.size))
  clear hb d0
  go_wp2_with fail
  rw [rounds_succ]
  have d1 := HA1.out.c1
  go_wp2_with fail
  refine (q1 _).mono ?_
  rintro e w2 ⟨rfl, hb⟩
  have HA2 := Lib.hid (HA1.out.keep hb)
  have HB2 := Lib.hid (HB1.out.trans (hb.mono HB1.out.size))
  clear hb d1
  go_wp2_with fail
  rw [rounds_succ]
  have d2 := HA2.out.c2
  go_wp2_with fail
  refine (q2 _).mono ?_
  rintro e w3 ⟨rfl, hb⟩
  have HA3 := Lib.hid (HA2.out.keep hb)
  have HB3 := Lib.hid (HB2.out.trans (hb.mono HB2.out.size))
  clear hb d2
  go_wp2_with fail
  go_ret
  exact ⟨rfl, HB3.out⟩

theorem stands_4 (o : Bool) (W F T : Int) (rd wr : Bool) (K : Int) (lk : Bool) (w : World)
    (q0 : ∀ w, Calls Tryz.prog 118 #[reg o W F T rd wr K lk] w fun e w' => e = .returned (.bool true) ∧ Below w.heap.size w w')
    (q1 : ∀ w, Calls Tryz.prog 119 #[reg o W F T rd wr K lk] w fun e w' => e = .returned (.bool true) ∧ Below w.heap.size w w')
    (q2 : ∀ w, Calls Tryz.prog 120 #[reg o W F T rd wr K lk] w fun e w' => e = .returned (.bool true) ∧ Below w.heap.size w w')
    (q3 : ∀ w, Calls Tryz.prog 121 #[reg o W F T rd wr K lk] w fun e w' => e = .returned (.bool false) ∧ Below w.heap.size w w') :
    Calls Tryz.prog 101 #[reg o W F T rd wr K lk] w fun e w' => e = .returned (.bool false) ∧ Below w.heap.size w w' := by
  have hmf : ∀ (fn : Fn) (first cap : Array Value) (w : World), (Instr.makeFunc fn first cap).run Tryz.prog w = .ok (.func fn first cap) w := fun _ _ _ _ => rfl
  go_enter Tryz.func101, Tryz.ntmps101
  go_wp2_with fail
  obtain ⟨v, hv⟩ : ∃ v, v = reg o W F T rd wr K lk := ⟨_, rfl⟩
  obtain ⟨W0, hW0⟩ : ∃ X : World, X = (w.alloc (.cells #[.bool o, .int .i64 W, .int .u32 F, .int .u32 T, .bool rd, .bool wr, .int .i64 K, .bool lk] 115)).alloc (.cells #[.func (.func 118) #[v] #[], .func (.func 119) #[v] #[], .func (.func 120) #[v] #[], .func (.func 121) #[v] #[]] 26) := ⟨_, rfl⟩
  have hA := holds_new w v _ _ rfl W0 hW0
  subst hv
  rw [← hW0]
  obtain ⟨g, hg⟩ : ∃ g, w.heap.size + 1 = g := ⟨_, rfl⟩
  rw [hg] at hA
  rw [hg]
  have HA := Lib.hid hA.1
  have HB := Lib.hid hA.2
  clear hA hg hW0
  refine wp_loop_rounds 5 ?_
  rw [rounds_succ]
  have d0 := HA.out.c0
  go_wp2_with fail
  refine (q0 _).mono ?_
  rintro e w1 ⟨rfl, hb⟩
  have HA1 := Lib.hid (HA.out.keep hb)
  have HB1 := Lib.hid (HB.out.trans (hb.mono HB.out.size))
  clear hb d0
  go_wp2_with fail
  rw [rounds_succ]
  have d1 := HA1.out.c1
  go_wp2_with fail
  refine (q1 _).mono ?_
  rintro e w2 ⟨rfl, hb⟩
  have HA2 := Lib.hid (HA1.out.keep hb)
  have HB2 := Lib.hid (HB1.out.trans (hb.mono HB1.out.size))
  clear hb d1
  go_wp2_with fail
  rw [rounds_succ]
  have d2 := HA2.out.c2
  go_wp2_with fail
  refine (q2 _).mono ?_
  rintro e w3 ⟨rfl, hb⟩
  have HA3 := Lib.hid (HA2.out.keep hb)
  have HB3 := Lib.hid (HB2.out.trans (hb.mono HB2.out.size))
  clear hb d2
  go_wp2_with fail
  rw [rounds_succ]
  have d3 := HA3.out.c3
  go_wp2_with fail
  refine (q3 _).mono ?_
  rintro e w4 ⟨rfl, hb⟩
  have HA4 := Lib.hid (HA3.out.keep hb)
  have HB4 := Lib.hid (HB3.out.trans (hb.mono HB3.out.size))
  clear hb d3
  go_wp2_with fail
  go_ret
  exact ⟨rfl, HB4.out⟩

theorem stands_5 (o : Bool) (W F T : Int) (rd wr : Bool) (K : Int) (lk : Bool) (w : World)
    (q0 : ∀ w, Calls Tryz.prog 118 #[reg o W F T rd wr K lk] w fun e w' => e = .returned (.bool true) ∧ Below w.heap.size w w')
    (q1 : ∀ w, Calls Tryz.prog 119 #[reg o W F T rd wr K lk] w fun e w' => e = .returned (.bool true) ∧ Below w.heap.size w w')
    (q2 : ∀ w, Calls Tryz.prog 120 #[reg o W F T rd wr K lk] w fun e w' => e = .returned (.bool true) ∧ Below w.heap.size w w')
    (q3 : ∀ w, Calls Tryz.prog 121 #[reg o W F T rd wr K lk] w fun e w' => e = .returned (.bool true) ∧ Below w.heap.size w w') :
    Calls Tryz.prog 101 #[reg o W F T rd wr K lk] w fun e w' => e = .returned (.bool true) ∧ Below w.heap.size w w' := by
  have hmf : ∀ (fn : Fn) (first cap : Array Value) (w : World), (Instr.makeFunc fn first cap).run Tryz.prog w = .ok (.func fn first cap) w := fun _ _ _ _ => rfl
  go_enter Tryz.func101, Tryz.ntmps101
  go_wp2_with fail
  obtain ⟨v, hv⟩ : ∃ v, v = reg o W F T rd wr K lk := ⟨_, rfl⟩
  obtain ⟨W0, hW0⟩ : ∃ X : World, X = (w.alloc (.cells #[.bool o, .int .i64 W, .int .u32 F, .int .u32 T, .bool rd, .bool wr, .int .i64 K, .bool lk] 115)).alloc (.cells #[.func (.func 118) #[v] #[], .func (.func 119) #[v] #[], .func (.func 120) #[v] #[], .func (.func 121) #[v] #[]] 26) := ⟨_, rfl⟩
  have hA := holds_new w v _ _ rfl W0 hW0
  subst hv
  rw [← hW0]
  obtain ⟨g, hg⟩ : ∃ g, w.heap.size + 1 = g := ⟨_, rfl⟩
  rw [hg] at hA
  rw [hg]
  have HA := Lib.hid hA.1
  have HB := Lib.hid hA.2
  clear hA hg hW0
  refine wp_loop_rounds 5 ?_
  rw [rounds_succ]
  have d0 := HA.out.c0
  go_wp2_with fail
  refine (q0 _).mono ?_
  rintro e w1 ⟨rfl, hb⟩
  have HA1 := Lib.hid (HA.out.keep hb)
  have HB1 := Lib.hid (HB.out.trans (hb.mono HB.out.size))
  clear hb d0
  go_wp2_with fail
  rw [rounds_succ]
  have d1 := HA1.out.c1
  go_wp2_with fail
  refine (q1 _).mono ?_
  rintro e w2 ⟨rfl, hb⟩
  have HA2 := Lib.hid (HA1.out.keep hb)
  have HB2 := Lib.hid (HB1.out.trans (hb.mono HB1.out.size))
  clear hb d1
  go_wp2_with fail
  rw [rounds_succ]
  have d2 := HA2.out.c2
  go_wp2_with fail
  refine (q2 _).mono ?_
  rintro e w3 ⟨rfl, hb⟩
  have HA3 := Lib.hid (HA2.out.keep hb)
  have HB3 := Lib.hid (HB2.out.trans (hb.mono HB2.out.size))
  clear hb d2
  go_wp2_with fail
  rw [rounds_succ]
  have d3 := HA3.out.c3
  go_wp2_with fail
  refine (q3 _).mono ?_
  rintro e w4 ⟨rfl, hb⟩
  have HA4 := Lib.hid (HA3.out.keep hb)
  have HB4 := Lib.hid (HB3.out.trans (hb.mono HB3.out.size))
  clear hb d3
  go_wp2_with fail
  rw [rounds_succ]
  go_wp2_with fail
  go_ret
  exact ⟨rfl, HB4.out⟩

theorem stands_any (o : Bool) (W F T : Int) (rd wr : Bool) (K : Int) (lk : Bool) (b : Bool) (w : World) (hb : standB o W F T K = b) :
    Calls Tryz.prog 101 #[reg o W F T rd wr K lk] w fun e w' => e = .returned (.bool b) ∧ Below w.heap.size w w' := by
  subst hb
  unfold standB
  cases o
  · exact stands_1 false W F T rd wr K lk w (fun w => on_any false W F T rd wr K lk w)
  cases h2 : wdB W
  · exact stands_2 true W F T rd wr K lk w (fun w => on_any true W F T rd wr K lk w) (fun w => ofWorld_any true W F T rd wr K lk _ w h2)
  cases h3 : Reach.rightB F T
  · exact stands_3 true W F T rd wr K lk w (fun w => on_any true W F T rd wr K lk w) (fun w => ofWorld_any true W F T rd wr K lk _ w h2) (fun w => reaches_any true W F T rd wr K lk _ w h3)
  cases h4 : rankB K
  · exact stands_4 true W F T rd wr K lk w (fun w => on_any true W F T rd wr K lk w) (fun w => ofWorld_any true W F T rd wr K lk _ w h2) (fun w => reaches_any true W F T rd wr K lk _ w h3) (fun w => ranked_any true W F T rd wr K lk _ w h4)
  · exact stands_5 true W F T rd wr K lk w (fun w => on_any true W F T rd wr K lk w) (fun w => ofWorld_any true W F T rd wr K lk _ w h2) (fun w => reaches_any true W F T rd wr K lk _ w h3) (fun w => ranked_any true W F T rd wr K lk _ w h4)

theorem right_none (o : Bool) (W F T : Int) (rd wr : Bool) (K : Int) (lk : Bool) (w : World)
    (N : ∀ w, Calls Tryz.prog 100 #[reg o W F T rd wr K lk] w fun e w' => e = .returned (.bool true) ∧ Below w.heap.size w w') :
    Calls Tryz.prog 75 #[reg o W F T rd wr K lk] w fun e w' => e = .returned (.bool true) ∧ Below w.heap.size w w' := by
  go_enter Tryz.func75, Tryz.ntmps75
  go_wp2_with fail
  refine (N _).mono ?_
  rintro e w1 ⟨rfl, hb⟩
  have Hb := Lib.hid (((Below.refl w.heap.size w).alloc (Nat.le_refl _) _).trans (hb.mono (by simp)))
  clear hb
  go_wp2_with fail
  go_ret
  exact ⟨rfl, Hb.out⟩
theorem right_some (o : Bool) (W F T : Int) (rd wr : Bool) (K : Int) (lk : Bool) (b : Bool) (w : World)
    (N : ∀ w, Calls Tryz.prog 100 #[reg o W F T rd wr K lk] w fun e w' => e = .returned (.bool false) ∧ Below w.heap.size w w')
    (S : ∀ w, Calls Tryz.prog 101 #[reg o W F T rd wr K lk] w fun e w' => e = .returned (.bool b) ∧ Below w.heap.size w w') :
    Calls Tryz.prog 75 #[reg o W F T rd wr K lk] w fun e w' => e = .returned (.bool b) ∧ Below w.heap.size w w' := by
  go_enter Tryz.func75, Tryz.ntmps75
  go_wp2_with fail
  refine (N _).mono ?_
  rintro e w1 ⟨rfl, hb⟩
  obtain ⟨k0, k1, k2, k3, k4, k5, k6, k7⟩ := (eight_new w o W F T rd wr K lk _).keep hb
  have Hb := Lib.hid (((Below.refl w.heap.size w).alloc (Nat.le_refl _) _).trans (hb.mono (by simp)))
  clear hb
  go_wp2_with fail
  refine (S _).mono ?_
  rintro e w2 ⟨rfl, hb⟩
  clear k0 k1 k2 k3 k4 k5 k6 k7
  have Hb2 := Lib.hid (Hb.out.trans (hb.mono Hb.out.size))
  clear hb
  go_wp2_with fail
  go_ret
  exact ⟨rfl, Hb2.out⟩
theorem right_any (o : Bool) (W F T : Int) (rd wr : Bool) (K : Int) (lk : Bool) (b : Bool) (w : World) (hb : regB o W F T rd wr K lk = b) :
    Calls Tryz.prog 75 #[reg o W F T rd wr K lk] w fun e w' => e = .returned (.bool b) ∧ Below w.heap.size w w' := by
  subst hb
  unfold regB
  cases hz : zeroB o W F T rd wr K lk
  · exact right_some o W F T rd wr K lk _ w (fun w => none_any o W F T rd wr K lk _ w hz) (fun w => stands_any o W F T rd wr K lk _ w rfl)
  · exact right_none o W F T rd wr K lk w (fun w => none_any o W F T rd wr K lk _ w hz)
theorem Right_any (o : Bool) (W F T : Int) (rd wr : Bool) (K : Int) (lk : Bool) (b : Bool) (w : World) (hb : regB o W F T rd wr K lk = b) :
    Calls Tryz.prog 38 #[reg o W F T rd wr K lk] w fun e w' => e = .returned (.bool b) ∧ Below w.heap.size w w' := by
  have R := fun w => right_any o W F T rd wr K lk b w hb
  clear hb
  go_enter Tryz.func38, Tryz.ntmps38
  go_wp2_with fail
  refine (R _).mono ?_
  rintro e w1 ⟨rfl, hb⟩
  have Hb := Lib.hid (((Below.refl w.heap.size w).alloc (Nat.le_refl _) _).trans (hb.mono (by simp)))
  clear hb
  go_wp2_with fail
  go_ret
  exact ⟨rfl, Hb.out⟩

theorem ron_w0 (W F T : Int) (rd wr : Bool) (K : Int) (lk : Bool) (w : World) (h : W < 0) :
    Calls Tryz.prog 50 #[reg true W F T rd wr K lk] w fun e w' => e = .returned (.bool false) ∧ Below w.heap.size w w' := by
  go_enter Tryz.func50, Tryz.ntmps50
  go_wp2_with fail
  go_ret
  exact ⟨rfl, (Below.refl _ _).alloc (Nat.le_refl _) _⟩

theorem ron_w8 (W F T : Int) (rd wr : Bool) (K : Int) (lk : Bool) (w : World) (h : 0 ≤ W) (h2 : 8 ≤ W) :
    Calls Tryz.prog 50 #[reg true W F T rd wr K lk] w fun e w' => e = .returned (.bool false) ∧ Below w.heap.size w w' := by
  go_enter Tryz.func50, Tryz.ntmps50
  go_wp2_with fail
  go_ret
  exact ⟨rfl, (Below.refl _ _).alloc (Nat.le_refl _) _⟩

theorem ron_re (W F T : Int) (rd wr : Bool) (K : Int) (lk : Bool) (w : World) (h : 0 ≤ W) (h2 : W < 8) (Q : ∀ w, Calls Tryz.prog 84 #[.agg #[.int .u32 F, .int .u32 T]] w fun e w' => e = .returned (.bool false) ∧ Below w.heap.size w w') :
    Calls Tryz.prog 50 #[reg true W F T rd wr K lk] w fun e w' => e = .returned (.bool false) ∧ Below w.heap.size w w' := by
  go_enter Tryz.func50, Tryz.ntmps50
  go_wp2_with fail
  refine (Q _).mono ?_
  rintro e w1 ⟨rfl, hb⟩
  obtain ⟨k0, k1, k2, k3, k4, k5, k6, k7⟩ := (eight_new w true W F T rd wr K lk _).keep hb
  have Hb := Lib.hid (((Below.refl w.heap.size w).alloc (Nat.le_refl _) _).trans (hb.mono (by simp)))
  clear hb
  go_wp2_with fail
  go_ret
  exact ⟨rfl, Hb.out⟩

theorem ron_k0 (W F T : Int) (rd wr : Bool) (K : Int) (lk : Bool) (w : World) (h : 0 ≤ W) (h2 : W < 8) (Q : ∀ w, Calls Tryz.prog 84 #[.agg #[.int .u32 F, .int .u32 T]] w fun e w' => e = .returned (.bool true) ∧ Below w.heap.size w w') (h3 : K < 0) :
    Calls Tryz.prog 50 #[reg true W F T rd wr K lk] w fun e w' => e = .returned (.bool false) ∧ Below w.heap.size w w' := by
  go_enter Tryz.func50, Tryz.ntmps50
  go_wp2_with fail
  refine (Q _).mono ?_
  rintro e w1 ⟨rfl, hb⟩
  obtain ⟨k0, k1, k2, k3, k4, k5, k6, k7⟩ := (eight_new w true W F T rd wr K lk _).keep hb
  have Hb := Lib.hid (((Below.refl w.heap.size w).alloc (Nat.le_refl _) _).trans (hb.mono (by simp)))
  clear hb
  go_wp2_with fail
  go_ret
  exact ⟨rfl, Hb.out⟩

theorem ron_k9 (W F T : Int) (rd wr : Bool) (K : Int) (lk : Bool) (w : World) (h : 0 ≤ W) (h2 : W < 8) (Q : ∀ w, Calls Tryz.prog 84 #[.agg #[.int .u32 F, .int .u32 T]] w fun e w' => e = .returned (.bool true) ∧ Below w.heap.size w w') (h3 : 0 ≤ K) (h4 : ¬ K ≤ 255) :
    Calls Tryz.prog 50 #[reg true W F T rd wr K lk] w fun e w' => e = .returned (.bool false) ∧ Below w.heap.size w w' := by
  go_enter Tryz.func50, Tryz.ntmps50
  go_wp2_with fail
  refine (Q _).mono ?_
  rintro e w1 ⟨rfl, hb⟩
  obtain ⟨k0, k1, k2, k3, k4, k5, k6, k7⟩ := (eight_new w true W F T rd wr K lk _).keep hb
  have Hb := Lib.hid (((Below.refl w.heap.size w).alloc (Nat.le_refl _) _).trans (hb.mono (by simp)))
  clear hb
  go_wp2_with fail
  go_ret
  exact ⟨ret_bool (decide_eq_false (by omega)), Hb.out⟩

theorem ron_ok (W F T : Int) (rd wr : Bool) (K : Int) (lk : Bool) (w : World) (h : 0 ≤ W) (h2 : W < 8) (Q : ∀ w, Calls Tryz.prog 84 #[.agg #[.int .u32 F, .int .u32 T]] w fun e w' => e = .returned (.bool true) ∧ Below w.heap.size w w') (h3 : 0 ≤ K) (h4 : K ≤ 255) :
    Calls Tryz.prog 50 #[reg true W F T rd wr K lk] w fun e w' => e = .returned (.bool true) ∧ Below w.heap.size w w' := by
  go_enter Tryz.func50, Tryz.ntmps50
  go_wp2_with fail
  refine (Q _).mono ?_
  rintro e w1 ⟨rfl, hb⟩
  obtain ⟨k0, k1, k2, k3, k4, k5, k6, k7⟩ := (eight_new w true W F T rd wr K lk _).keep hb
  have Hb := Lib.hid (((Below.refl w.heap.size w).alloc (Nat.le_refl _) _).trans (hb.mono (by simp)))
  clear hb
  go_wp2_with fail
  go_ret
  exact ⟨rfl, Hb.out⟩

theorem rRight_any (o : Bool) (W F T : Int) (rd wr : Bool) (K : Int) (lk : Bool) (b : Bool) (w : World) (hb : regB o W F T rd wr K lk = b) :
    Calls Tryz.prog 50 #[reg o W F T rd wr K lk] w fun e w' => e = .returned (.bool b) ∧ Below w.heap.size w w' := by
  cases o
  · exact rzero_any W F T rd wr K lk b w (by rw [← hb, reg_off])
  · rw [reg_on] at hb
    subst hb
    by_cases h : W < 0
    · have e : standB true W F T K = false := by unfold standB wdB; rw [decide_eq_false (by omega)]; rfl
      rw [e]; exact ron_w0 W F T rd wr K lk w h
    by_cases h2 : 8 ≤ W
    · have e : standB true W F T K = false := by unfold standB wdB; rw [decide_eq_false (by omega)]; rfl
      rw [e]; exact ron_w8 W F T rd wr K lk w (by omega) h2
    have ew : wdB W = true := decide_eq_true (by omega)
    cases hr : Reach.rightB F T
    · have e : standB true W F T K = false := by unfold standB; rw [ew, hr]; rfl
      rw [e]; exact ron_re W F T rd wr K lk w (by omega) (by omega) (fun w => Reach.rright_val F T _ w hr)
    by_cases h3 : K < 0
    · have e : standB true W F T K = false := by unfold standB rankB; rw [ew, hr, decide_eq_false (by omega)]; rfl
      rw [e]; exact ron_k0 W F T rd wr K lk w (by omega) (by omega) (fun w => Reach.rright_val F T _ w hr) h3
    by_cases h4 : 255 < K
    · have e : standB true W F T K = false := by unfold standB rankB; rw [ew, hr, decide_eq_false (by omega)]; rfl
      rw [e]; exact ron_k9 W F T rd wr K lk w (by omega) (by omega) (fun w => Reach.rright_val F T _ w hr) (by omega) (by omega)
    · have e : standB true W F T K = true := by unfold standB rankB; rw [ew, hr, decide_eq_true (by omega)]; rfl
      rw [e]; exact ron_ok W F T rd wr K lk w (by omega) (by omega) (fun w => Reach.rright_val F T _ w hr) (by omega) (by omega)
end Go.Proofs.YtmkponhhinjpkaaGreat.Region
/- Contracts: Has, Lets, Clash, Above, both ways. -/
namespace Go.Proofs.YtmkponhhinjpkaaGreat.Region
open Go.RowKit Go.Proofs.YtmkponhhinjpkaaGreat.Access
set_option linter.unusedVariables false

theorem has_0 (o : Bool) (W F T : Int) (rd wr : Bool) (K : Int) (lk : Bool) (W2 : Int) (r2 : Bool) (A S D : Int) (x y : Int) (w : World)
    (q0 : ∀ w, Calls Tryz.prog 116 #[acc W2 r2 A S D] w fun e w' => e = .returned (.tuple #[.agg #[.int .u32 x, .int .u32 y], .bool false]) ∧ Below w.heap.size w w') :
    Calls Tryz.prog 86 #[reg o W F T rd wr K lk, acc W2 r2 A S D] w fun e w' => e = .returned (.bool false) ∧ Below w.heap.size w w' := by
  go_enter Tryz.func86, Tryz.ntmps86
  go_wp2_with fail
  refine (q0 _).mono ?_
  rintro e w1 ⟨rfl, hb⟩
  have P0 := Lib.hid (((eight_new w o W F T rd wr K lk 115).alloc _).keep hb)
  have R0 := Lib.hid ((show Five _ (w.heap.size + 1) W2 r2 A S D by have := five_new (w.alloc (.cells #[.bool o, .int .i64 W, .int .u32 F, .int .u32 T, .bool rd, .bool wr, .int .i64 K, .bool lk] 115)) W2 r2 A S D 25; simpa using this).keep hb)
  have B0 := Lib.hid ((((Below.refl w.heap.size w).alloc (Nat.le_refl _) _).alloc (by simp) _).trans (hb.mono (by simp; omega)))
  clear hb
  have T1 := Lib.hid (Reach.two_new w1 x y 35)
  have P1 := Lib.hid (P0.out.alloc (.cells #[.int .u32 x, .int .u32 y] 35))
  have R1 := Lib.hid (R0.out.alloc (.cells #[.int .u32 x, .int .u32 y] 35))
  have B1 := Lib.hid (B0.out.alloc B0.out.size (.cells #[.int .u32 x, .int .u32 y] 35))
  clear P0 R0 B0
  obtain ⟨k0, k1, k2, k3, k4, k5, k6, k7⟩ := P1.out
  obtain ⟨m0, m1, m2, m3, m4⟩ := R1.out
  go_wp2_with fail
  go_ret
  exact ⟨rfl, B1.out⟩

theorem has_1 (o : Bool) (W F T : Int) (rd wr : Bool) (K : Int) (lk : Bool) (W2 : Int) (r2 : Bool) (A S D : Int) (x y : Int) (w : World)
    (q0 : ∀ w, Calls Tryz.prog 116 #[acc W2 r2 A S D] w fun e w' => e = .returned (.tuple #[.agg #[.int .u32 x, .int .u32 y], .bool true]) ∧ Below w.heap.size w w') (q1 : ∀ w, Calls Tryz.prog 101 #[reg o W F T rd wr K lk] w fun e w' => e = .returned (.bool false) ∧ Below w.heap.size w w') :
    Calls Tryz.prog 86 #[reg o W F T rd wr K lk, acc W2 r2 A S D] w fun e w' => e = .returned (.bool false) ∧ Below w.heap.size w w' := by
  go_enter Tryz.func86, Tryz.ntmps86
  go_wp2_with fail
  refine (q0 _).mono ?_
  rintro e w1 ⟨rfl, hb⟩
  have P0 := Lib.hid (((eight_new w o W F T rd wr K lk 115).alloc _).keep hb)
  have R0 := Lib.hid ((show Five _ (w.heap.size + 1) W2 r2 A S D by have := five_new (w.alloc (.cells #[.bool o, .int .i64 W, .int .u32 F, .int .u32 T, .bool rd, .bool wr, .int .i64 K, .bool lk] 115)) W2 r2 A S D 25; simpa using this).keep hb)
  have B0 := Lib.hid ((((Below.refl w.heap.size w).alloc (Nat.le_refl _) _).alloc (by simp) _).trans (hb.mono (by simp; omega)))
  clear hb
  have T1 := Lib.hid (Reach.two_new w1 x y 35)
  have P1 := Lib.hid (P0.out.alloc (.cells #[.int .u32 x, .int .u32 y] 35))
  have R1 := Lib.hid (R0.out.alloc (.cells #[.int .u32 x, .int .u32 y] 35))
  have B1 := Lib.hid (B0.out.alloc B0.out.size (.cells #[.int .u32 x, .int .u32 y] 35))
  clear P0 R0 B0
  obtain ⟨k0, k1, k2, k3, k4, k5, k6, k7⟩ := P1.out
  obtain ⟨m0, m1, m2, m3, m4⟩ := R1.out
  go_wp2_with fail
  refine (q1 _).mono ?_
  rintro e w3 ⟨rfl, hb⟩
  have P2 := Lib.hid (P1.out.keep hb)
  have R2 := Lib.hid (R1.out.keep hb)
  have T2 := Lib.hid (T1.out.keep hb)
  have B2 := Lib.hid (B1.out.trans (hb.mono B1.out.size))
  clear hb
  clear k0 k1 k2 k3 k4 k5 k6 k7
  clear m0 m1 m2 m3 m4
  obtain ⟨k0, k1, k2, k3, k4, k5, k6, k7⟩ := P2.out
  obtain ⟨m0, m1, m2, m3, m4⟩ := R2.out
  obtain ⟨n0, n1⟩ := T2.out
  go_wp2_with fail
  go_ret
  exact ⟨rfl, B2.out⟩

theorem has_2 (o : Bool) (W F T : Int) (rd wr : Bool) (K : Int) (lk : Bool) (W2 : Int) (r2 : Bool) (A S D : Int) (x y : Int) (w : World)
    (q0 : ∀ w, Calls Tryz.prog 116 #[acc W2 r2 A S D] w fun e w' => e = .returned (.tuple #[.agg #[.int .u32 x, .int .u32 y], .bool true]) ∧ Below w.heap.size w w') (q1 : ∀ w, Calls Tryz.prog 101 #[reg o W F T rd wr K lk] w fun e w' => e = .returned (.bool true) ∧ Below w.heap.size w w') (h : ¬ W2 = W) :
    Calls Tryz.prog 86 #[reg o W F T rd wr K lk, acc W2 r2 A S D] w fun e w' => e = .returned (.bool false) ∧ Below w.heap.size w w' := by
  go_enter Tryz.func86, Tryz.ntmps86
  go_wp2_with fail
  refine (q0 _).mono ?_
  rintro e w1 ⟨rfl, hb⟩
  have P0 := Lib.hid (((eight_new w o W F T rd wr K lk 115).alloc _).keep hb)
  have R0 := Lib.hid ((show Five _ (w.heap.size + 1) W2 r2 A S D by have := five_new (w.alloc (.cells #[.bool o, .int .i64 W, .int .u32 F, .int .u32 T, .bool rd, .bool wr, .int .i64 K, .bool lk] 115)) W2 r2 A S D 25; simpa using this).keep hb)
  have B0 := Lib.hid ((((Below.refl w.heap.size w).alloc (Nat.le_refl _) _).alloc (by simp) _).trans (hb.mono (by simp; omega)))
  clear hb
  have T1 := Lib.hid (Reach.two_new w1 x y 35)
  have P1 := Lib.hid (P0.out.alloc (.cells #[.int .u32 x, .int .u32 y] 35))
  have R1 := Lib.hid (R0.out.alloc (.cells #[.int .u32 x, .int .u32 y] 35))
  have B1 := Lib.hid (B0.out.alloc B0.out.size (.cells #[.int .u32 x, .int .u32 y] 35))
  clear P0 R0 B0
  obtain ⟨k0, k1, k2, k3, k4, k5, k6, k7⟩ := P1.out
  obtain ⟨m0, m1, m2, m3, m4⟩ := R1.out
  go_wp2_with fail
  refine (q1 _).mono ?_
  rintro e w3 ⟨rfl, hb⟩
  have P2 := Lib.hid (P1.out.keep hb)
  have R2 := Lib.hid (R1.out.keep hb)
  have T2 := Lib.hid (T1.out.keep hb)
  have B2 := Lib.hid (B1.out.trans (hb.mono B1.out.size))
  clear hb
  clear k0 k1 k2 k3 k4 k5 k6 k7
  clear m0 m1 m2 m3 m4
  obtain ⟨k0, k1, k2, k3, k4, k5, k6, k7⟩ := P2.out
  obtain ⟨m0, m1, m2, m3, m4⟩ := R2.out
  obtain ⟨n0, n1⟩ := T2.out
  go_wp2_with fail
  go_ret
  exact ⟨rfl, B2.out⟩

theorem has_3 (o : Bool) (W F T : Int) (rd wr : Bool) (K : Int) (lk : Bool) (r2 : Bool) (A S D : Int) (x y : Int) (w : World)
    (q0 : ∀ w, Calls Tryz.prog 116 #[acc W r2 A S D] w fun e w' => e = .returned (.tuple #[.agg #[.int .u32 x, .int .u32 y], .bool true]) ∧ Below w.heap.size w w') (q1 : ∀ w, Calls Tryz.prog 101 #[reg o W F T rd wr K lk] w fun e w' => e = .returned (.bool true) ∧ Below w.heap.size w w') (b : Bool) (q2 : ∀ w, Calls Tryz.prog 117 #[.agg #[.int .u32 x, .int .u32 y], .agg #[.int .u32 F, .int .u32 T]] w fun e w' => e = .returned (.bool b) ∧ Below w.heap.size w w') :
    Calls Tryz.prog 86 #[reg o W F T rd wr K lk, acc W r2 A S D] w fun e w' => e = .returned (.bool b) ∧ Below w.heap.size w w' := by
  go_enter Tryz.func86, Tryz.ntmps86
  go_wp2_with fail
  refine (q0 _).mono ?_
  rintro e w1 ⟨rfl, hb⟩
  have P0 := Lib.hid (((eight_new w o W F T rd wr K lk 115).alloc _).keep hb)
  have R0 := Lib.hid ((show Five _ (w.heap.size + 1) W r2 A S D by have := five_new (w.alloc (.cells #[.bool o, .int .i64 W, .int .u32 F, .int .u32 T, .bool rd, .bool wr, .int .i64 K, .bool lk] 115)) W r2 A S D 25; simpa using this).keep hb)
  have B0 := Lib.hid ((((Below.refl w.heap.size w).alloc (Nat.le_refl _) _).alloc (by simp) _).trans (hb.mono (by simp; omega)))
  clear hb
  have T1 := Lib.hid (Reach.two_new w1 x y 35)
  have P1 := Lib.hid (P0.out.alloc (.cells #[.int .u32 x, .int .u32 y] 35))
  have R1 := Lib.hid (R0.out.alloc (.cells #[.int .u32 x, .int .u32 y] 35))
  have B1 := Lib.hid (B0.out.alloc B0.out.size (.cells #[.int .u32 x, .int .u32 y] 35))
  clear P0 R0 B0
  obtain ⟨k0, k1, k2, k3, k4, k5, k6, k7⟩ := P1.out
  obtain ⟨m0, m1, m2, m3, m4⟩ := R1.out
  go_wp2_with fail
  refine (q1 _).mono ?_
  rintro e w3 ⟨rfl, hb⟩
  have P2 := Lib.hid (P1.out.keep hb)
  have R2 := Lib.hid (R1.out.keep hb)
  have T2 := Lib.hid (T1.out.keep hb)
  have B2 := Lib.hid (B1.out.trans (hb.mono B1.out.size))
  clear hb
  clear k0 k1 k2 k3 k4 k5 k6 k7
  clear m0 m1 m2 m3 m4
  obtain ⟨k0, k1, k2, k3, k4, k5, k6, k7⟩ := P2.out
  obtain ⟨m0, m1, m2, m3, m4⟩ := R2.out
  obtain ⟨n0, n1⟩ := T2.out
  go_wp2_with fail
  refine (q2 _).mono ?_
  rintro e w4 ⟨rfl, hb⟩
  have B3 := Lib.hid (B2.out.trans (hb.mono B2.out.size))
  clear hb
  go_wp2_with fail
  go_ret
  exact ⟨rfl, B3.out⟩

theorem has_any (o : Bool) (W F T : Int) (rd wr : Bool) (K : Int) (lk : Bool) (W2 : Int) (r2 : Bool) (A S D : Int) (b : Bool) (w : World) (hA : 0 ≤ A) (hA' : A < 4294967296) (hD : 0 ≤ D) (hD' : D < 4294967296) (hb : hasV o W F T K W2 r2 A S D = b) :
    Calls Tryz.prog 86 #[reg o W F T rd wr K lk, acc W2 r2 A S D] w fun e w' => e = .returned (.bool b) ∧ Below w.heap.size w w' := by
  subst hb
  unfold hasV
  cases h1 : Access.rightB W2 r2 A S D
  · exact has_0 o W F T rd wr K lk W2 r2 A S D _ _ w (fun w => Access.Reach_any W2 r2 A S D _ _ _ w hA hA' hD hD' h1 rfl rfl)
  cases h2 : standB o W F T K
  · exact has_1 o W F T rd wr K lk W2 r2 A S D _ _ w (fun w => Access.Reach_any W2 r2 A S D _ _ _ w hA hA' hD hD' h1 rfl rfl) (fun w => stands_any o W F T rd wr K lk _ w h2)
  by_cases h3 : ¬ W2 = W
  · rw [decide_eq_false h3]
    exact has_2 o W F T rd wr K lk W2 r2 A S D _ _ w (fun w => Access.Reach_any W2 r2 A S D _ _ _ w hA hA' hD hD' h1 rfl rfl) (fun w => stands_any o W F T rd wr K lk _ w h2) h3
  · obtain rfl := Decidable.not_not.1 h3
    rw [decide_eq_true rfl]
    exact has_3 o W2 F T rd wr K lk r2 A S D _ _ w (fun w => Access.Reach_any W2 r2 A S D _ _ _ w hA hA' hD hD' h1 rfl rfl) (fun w => stands_any o W2 F T rd wr K lk _ w h2) _ (fun w => Reach.In_val _ _ _ _ _ w (by simp [reF, reT]))
theorem Has_any (o : Bool) (W F T : Int) (rd wr : Bool) (K : Int) (lk : Bool) (W2 : Int) (r2 : Bool) (A S D : Int) (b : Bool) (w : World) (hA : 0 ≤ A) (hA' : A < 4294967296) (hD : 0 ≤ D) (hD' : D < 4294967296) (hb : hasV o W F T K W2 r2 A S D = b) :
    Calls Tryz.prog 53 #[reg o W F T rd wr K lk, acc W2 r2 A S D] w fun e w' => e = .returned (.bool b) ∧ Below w.heap.size w w' := by
  have R := fun w => has_any o W F T rd wr K lk W2 r2 A S D b w hA hA' hD hD' hb
  clear hb
  go_enter Tryz.func53, Tryz.ntmps53
  go_wp2_with fail
  refine (R _).mono ?_
  rintro e w1 ⟨rfl, hb⟩
  have Hb := Lib.hid ((((Below.refl w.heap.size w).alloc (Nat.le_refl _) _).alloc (by simp) _).trans (hb.mono (by simp; omega)))
  clear hb
  go_wp2_with fail
  go_ret
  exact ⟨rfl, Hb.out⟩

theorem rhas_0 (o : Bool) (W F T : Int) (rd wr : Bool) (K : Int) (lk : Bool) (W2 : Int) (r2 : Bool) (A S D : Int) (x y : Int) (a : Bool) (w : World)
    (q0 : ∀ w, Calls Tryz.prog 82 #[acc W2 r2 A S D] w fun e w' => e = .returned (.tuple #[.agg #[.int .u32 x, .int .u32 y], .bool a]) ∧ Below w.heap.size w w') (q1 : ∀ w, Calls Tryz.prog 50 #[reg o W F T rd wr K lk] w fun e w' => e = .returned (.bool false) ∧ Below w.heap.size w w') :
    Calls Tryz.prog 48 #[reg o W F T rd wr K lk, acc W2 r2 A S D] w fun e w' => e = .returned (.bool false) ∧ Below w.heap.size w w' := by
  go_enter Tryz.func48, Tryz.ntmps48
  go_wp2_with fail
  refine (q0 _).mono ?_
  rintro e w1 ⟨rfl, hb⟩
  have P0 := Lib.hid (((eight_new w o W F T rd wr K lk 37).alloc _).keep hb)
  have R0 := Lib.hid ((show Five _ (w.heap.size + 1) W2 r2 A S D by have := five_new (w.alloc (.cells #[.bool o, .int .i64 W, .int .u32 F, .int .u32 T, .bool rd, .bool wr, .int .i64 K, .bool lk] 37)) W2 r2 A S D 25; simpa using this).keep hb)
  have B0 := Lib.hid ((((Below.refl w.heap.size w).alloc (Nat.le_refl _) _).alloc (by simp) _).trans (hb.mono (by simp; omega)))
  clear hb
  have T1 := Lib.hid (Reach.two_new w1 x y 35)
  have P1 := Lib.hid (P0.out.alloc (.cells #[.int .u32 x, .int .u32 y] 35))
  have R1 := Lib.hid (R0.out.alloc (.cells #[.int .u32 x, .int .u32 y] 35))
  have B1 := Lib.hid (B0.out.alloc B0.out.size (.cells #[.int .u32 x, .int .u32 y] 35))
  clear P0 R0 B0
  obtain ⟨k0, k1, k2, k3, k4, k5, k6, k7⟩ := P1.out
  obtain ⟨m0, m1, m2, m3, m4⟩ := R1.out
  go_wp2_with fail
  refine (q1 _).mono ?_
  rintro e w3 ⟨rfl, hb⟩
  have P2 := Lib.hid (P1.out.keep hb)
  have R2 := Lib.hid (R1.out.keep hb)
  have T2 := Lib.hid (T1.out.keep hb)
  have B2 := Lib.hid (B1.out.trans (hb.mono B1.out.size))
  clear hb
  clear k0 k1 k2 k3 k4 k5 k6 k7
  clear m0 m1 m2 m3 m4
  obtain ⟨k0, k1, k2, k3, k4, k5, k6, k7⟩ := P2.out
  obtain ⟨m0, m1, m2, m3, m4⟩ := R2.out
  obtain ⟨n0, n1⟩ := T2.out
  go_wp2_with fail
  go_ret
  exact ⟨rfl, B2.out⟩

theorem rhas_1 (W F T : Int) (rd wr : Bool) (K : Int) (lk : Bool) (W2 : Int) (r2 : Bool) (A S D : Int) (x y : Int) (a : Bool) (w : World)
    (q0 : ∀ w, Calls Tryz.prog 82 #[acc W2 r2 A S D] w fun e w' => e = .returned (.tuple #[.agg #[.int .u32 x, .int .u32 y], .bool a]) ∧ Below w.heap.size w w') (q1 : ∀ w, Calls Tryz.prog 50 #[reg false W F T rd wr K lk] w fun e w' => e = .returned (.bool true) ∧ Below w.heap.size w w') :
    Calls Tryz.prog 48 #[reg false W F T rd wr K lk, acc W2 r2 A S D] w fun e w' => e = .returned (.bool false) ∧ Below w.heap.size w w' := by
  go_enter Tryz.func48, Tryz.ntmps48
  go_wp2_with fail
  refine (q0 _).mono ?_
  rintro e w1 ⟨rfl, hb⟩
  have P0 := Lib.hid (((eight_new w false W F T rd wr K lk 37).alloc _).keep hb)
  have R0 := Lib.hid ((show Five _ (w.heap.size + 1) W2 r2 A S D by have := five_new (w.alloc (.cells #[.bool false, .int .i64 W, .int .u32 F, .int .u32 T, .bool rd, .bool wr, .int .i64 K, .bool lk] 37)) W2 r2 A S D 25; simpa using this).keep hb)
  have B0 := Lib.hid ((((Below.refl w.heap.size w).alloc (Nat.le_refl _) _).alloc (by simp) _).trans (hb.mono (by simp; omega)))
  clear hb
  have T1 := Lib.hid (Reach.two_new w1 x y 35)
  have P1 := Lib.hid (P0.out.alloc (.cells #[.int .u32 x, .int .u32 y] 35))
  have R1 := Lib.hid (R0.out.alloc (.cells #[.int .u32 x, .int .u32 y] 35))
  have B1 := Lib.hid (B0.out.alloc B0.out.size (.cells #[.int .u32 x, .int .u32 y] 35))
  clear P0 R0 B0
  obtain ⟨k0, k1, k2, k3, k4, k5, k6, k7⟩ := P1.out
  obtain ⟨m0, m1, m2, m3, m4⟩ := R1.out
  go_wp2_with fail
  refine (q1 _).mono ?_
  rintro e w3 ⟨rfl, hb⟩
  have P2 := Lib.hid (P1.out.keep hb)
  have R2 := Lib.hid (R1.out.keep hb)
  have T2 := Lib.hid (T1.out.keep hb)
  have B2 := Lib.hid (B1.out.trans (hb.mono B1.out.size))
  clear hb
  clear k0 k1 k2 k3 k4 k5 k6 k7
  clear m0 m1 m2 m3 m4
  obtain ⟨k0, k1, k2, k3, k4, k5, k6, k7⟩ := P2.out
  obtain ⟨m0, m1, m2, m3, m4⟩ := R2.out
  obtain ⟨n0, n1⟩ := T2.out
  go_wp2_with fail
  go_ret
  exact ⟨rfl, B2.out⟩

theorem rhas_2 (W F T : Int) (rd wr : Bool) (K : Int) (lk : Bool) (W2 : Int) (r2 : Bool) (A S D : Int) (x y : Int) (w : World)
    (q0 : ∀ w, Calls Tryz.prog 82 #[acc W2 r2 A S D] w fun e w' => e = .returned (.tuple #[.agg #[.int .u32 x, .int .u32 y], .bool false]) ∧ Below w.heap.size w w') (q1 : ∀ w, Calls Tryz.prog 50 #[reg true W F T rd wr K lk] w fun e w' => e = .returned (.bool true) ∧ Below w.heap.size w w') :
    Calls Tryz.prog 48 #[reg true W F T rd wr K lk, acc W2 r2 A S D] w fun e w' => e = .returned (.bool false) ∧ Below w.heap.size w w' := by
  go_enter Tryz.func48, Tryz.ntmps48
  go_wp2_with fail
  refine (q0 _).mono ?_
  rintro e w1 ⟨rfl, hb⟩
  have P0 := Lib.hid (((eight_new w true W F T rd wr K lk 37).alloc _).keep hb)
  have R0 := Lib.hid ((show Five _ (w.heap.size + 1) W2 r2 A S D by have := five_new (w.alloc (.cells #[.bool true, .int .i64 W, .int .u32 F, .int .u32 T, .bool rd, .bool wr, .int .i64 K, .bool lk] 37)) W2 r2 A S D 25; simpa using this).keep hb)
  have B0 := Lib.hid ((((Below.refl w.heap.size w).alloc (Nat.le_refl _) _).alloc (by simp) _).trans (hb.mono (by simp; omega)))
  clear hb
  have T1 := Lib.hid (Reach.two_new w1 x y 35)
  have P1 := Lib.hid (P0.out.alloc (.cells #[.int .u32 x, .int .u32 y] 35))
  have R1 := Lib.hid (R0.out.alloc (.cells #[.int .u32 x, .int .u32 y] 35))
  have B1 := Lib.hid (B0.out.alloc B0.out.size (.cells #[.int .u32 x, .int .u32 y] 35))
  clear P0 R0 B0
  obtain ⟨k0, k1, k2, k3, k4, k5, k6, k7⟩ := P1.out
  obtain ⟨m0, m1, m2, m3, m4⟩ := R1.out
  go_wp2_with fail
  refine (q1 _).mono ?_
  rintro e w3 ⟨rfl, hb⟩
  have P2 := Lib.hid (P1.out.keep hb)
  have R2 := Lib.hid (R1.out.keep hb)
  have T2 := Lib.hid (T1.out.keep hb)
  have B2 := Lib.hid (B1.out.trans (hb.mono B1.out.size))
  clear hb
  clear k0 k1 k2 k3 k4 k5 k6 k7
  clear m0 m1 m2 m3 m4
  obtain ⟨k0, k1, k2, k3, k4, k5, k6, k7⟩ := P2.out
  obtain ⟨m0, m1, m2, m3, m4⟩ := R2.out
  obtain ⟨n0, n1⟩ := T2.out
  go_wp2_with fail
  go_ret
  exact ⟨rfl, B2.out⟩

theorem rhas_3 (W F T : Int) (rd wr : Bool) (K : Int) (lk : Bool) (W2 : Int) (r2 : Bool) (A S D : Int) (x y : Int) (w : World)
    (q0 : ∀ w, Calls Tryz.prog 82 #[acc W2 r2 A S D] w fun e w' => e = .returned (.tuple #[.agg #[.int .u32 x, .int .u32 y], .bool true]) ∧ Below w.heap.size w w') (q1 : ∀ w, Calls Tryz.prog 50 #[reg true W F T rd wr K lk] w fun e w' => e = .returned (.bool true) ∧ Below w.heap.size w w') (h : ¬ W2 = W) :
    Calls Tryz.prog 48 #[reg true W F T rd wr K lk, acc W2 r2 A S D] w fun e w' => e = .returned (.bool false) ∧ Below w.heap.size w w' := by
  go_enter Tryz.func48, Tryz.ntmps48
  go_wp2_with fail
  refine (q0 _).mono ?_
  rintro e w1 ⟨rfl, hb⟩
  have P0 := Lib.hid (((eight_new w true W F T rd wr K lk 37).alloc _).keep hb)
  have R0 := Lib.hid ((show Five _ (w.heap.size + 1) W2 r2 A S D by have := five_new (w.alloc (.cells #[.bool true, .int .i64 W, .int .u32 F, .int .u32 T, .bool rd, .bool wr, .int .i64 K, .bool lk] 37)) W2 r2 A S D 25; simpa using this).keep hb)
  have B0 := Lib.hid ((((Below.refl w.heap.size w).alloc (Nat.le_refl _) _).alloc (by simp) _).trans (hb.mono (by simp; omega)))
  clear hb
  have T1 := Lib.hid (Reach.two_new w1 x y 35)
  have P1 := Lib.hid (P0.out.alloc (.cells #[.int .u32 x, .int .u32 y] 35))
  have R1 := Lib.hid (R0.out.alloc (.cells #[.int .u32 x, .int .u32 y] 35))
  have B1 := Lib.hid (B0.out.alloc B0.out.size (.cells #[.int .u32 x, .int .u32 y] 35))
  clear P0 R0 B0
  obtain ⟨k0, k1, k2, k3, k4, k5, k6, k7⟩ := P1.out
  obtain ⟨m0, m1, m2, m3, m4⟩ := R1.out
  go_wp2_with fail
  refine (q1 _).mono ?_
  rintro e w3 ⟨rfl, hb⟩
  have P2 := Lib.hid (P1.out.keep hb)
  have R2 := Lib.hid (R1.out.keep hb)
  have T2 := Lib.hid (T1.out.keep hb)
  have B2 := Lib.hid (B1.out.trans (hb.mono B1.out.size))
  clear hb
  clear k0 k1 k2 k3 k4 k5 k6 k7
  clear m0 m1 m2 m3 m4
  obtain ⟨k0, k1, k2, k3, k4, k5, k6, k7⟩ := P2.out
  obtain ⟨m0, m1, m2, m3, m4⟩ := R2.out
  obtain ⟨n0, n1⟩ := T2.out
  go_wp2_with fail
  go_ret
  exact ⟨rfl, B2.out⟩

theorem rhas_4 (W F T : Int) (rd wr : Bool) (K : Int) (lk : Bool) (r2 : Bool) (A S D : Int) (x y : Int) (w : World)
    (q0 : ∀ w, Calls Tryz.prog 82 #[acc W r2 A S D] w fun e w' => e = .returned (.tuple #[.agg #[.int .u32 x, .int .u32 y], .bool true]) ∧ Below w.heap.size w w') (q1 : ∀ w, Calls Tryz.prog 50 #[reg true W F T rd wr K lk] w fun e w' => e = .returned (.bool true) ∧ Below w.heap.size w w') (b : Bool) (q2 : ∀ w, Calls Tryz.prog 83 #[.agg #[.int .u32 x, .int .u32 y], .agg #[.int .u32 F, .int .u32 T]] w fun e w' => e = .returned (.bool b) ∧ Below w.heap.size w w') :
    Calls Tryz.prog 48 #[reg true W F T rd wr K lk, acc W r2 A S D] w fun e w' => e = .returned (.bool b) ∧ Below w.heap.size w w' := by
  go_enter Tryz.func48, Tryz.ntmps48
  go_wp2_with fail
  refine (q0 _).mono ?_
  rintro e w1 ⟨rfl, hb⟩
  have P0 := Lib.hid (((eight_new w true W F T rd wr K lk 37).alloc _).keep hb)
  have R0 := Lib.hid ((show Five _ (w.heap.size + 1) W r2 A S D by have := five_new (w.alloc (.cells #[.bool true, .int .i64 W, .int .u32 F, .int .u32 T, .bool rd, .bool wr, .int .i64 K, .bool lk] 37)) W r2 A S D 25; simpa using this).keep hb)
  have B0 := Lib.hid ((((Below.refl w.heap.size w).alloc (Nat.le_refl _) _).alloc (by simp) _).trans (hb.mono (by simp; omega)))
  clear hb
  have T1 := Lib.hid (Reach.two_new w1 x y 35)
  have P1 := Lib.hid (P0.out.alloc (.cells #[.int .u32 x, .int .u32 y] 35))
  have R1 := Lib.hid (R0.out.alloc (.cells #[.int .u32 x, .int .u32 y] 35))
  have B1 := Lib.hid (B0.out.alloc B0.out.size (.cells #[.int .u32 x, .int .u32 y] 35))
  clear P0 R0 B0
  obtain ⟨k0, k1, k2, k3, k4, k5, k6, k7⟩ := P1.out
  obtain ⟨m0, m1, m2, m3, m4⟩ := R1.out
  go_wp2_with fail
  refine (q1 _).mono ?_
  rintro e w3 ⟨rfl, hb⟩
  have P2 := Lib.hid (P1.out.keep hb)
  have R2 := Lib.hid (R1.out.keep hb)
  have T2 := Lib.hid (T1.out.keep hb)
  have B2 := Lib.hid (B1.out.trans (hb.mono B1.out.size))
  clear hb
  clear k0 k1 k2 k3 k4 k5 k6 k7
  clear m0 m1 m2 m3 m4
  obtain ⟨k0, k1, k2, k3, k4, k5, k6, k7⟩ := P2.out
  obtain ⟨m0, m1, m2, m3, m4⟩ := R2.out
  obtain ⟨n0, n1⟩ := T2.out
  go_wp2_with fail
  refine (q2 _).mono ?_
  rintro e w4 ⟨rfl, hb⟩
  have B3 := Lib.hid (B2.out.trans (hb.mono B2.out.size))
  clear hb
  go_wp2_with fail
  go_ret
  exact ⟨rfl, B3.out⟩

theorem rHas_any (o : Bool) (W F T : Int) (rd wr : Bool) (K : Int) (lk : Bool) (W2 : Int) (r2 : Bool) (A S D : Int) (b : Bool) (w : World) (hA : 0 ≤ A) (hA' : A < 4294967296) (hD : 0 ≤ D) (hD' : D < 4294967296) (hb : hasV o W F T K W2 r2 A S D = b) :
    Calls Tryz.prog 48 #[reg o W F T rd wr K lk, acc W2 r2 A S D] w fun e w' => e = .returned (.bool b) ∧ Below w.heap.size w w' := by
  subst hb
  unfold hasV
  cases hr : regB o W F T rd wr K lk
  · have e : standB o W F T K = false := by rw [← reg_and_on (rd := rd) (wr := wr) (lk := lk), hr]; rfl
    rw [e, Bool.and_false, Bool.false_and, Bool.false_and]
    exact rhas_0 o W F T rd wr K lk W2 r2 A S D _ _ _ w (fun w => Access.rReach_any W2 r2 A S D _ _ _ w hA hA' hD hD' rfl rfl rfl) (fun w => rRight_any o W F T rd wr K lk _ w hr)
  cases o
  · rw [stand_off, Bool.and_false, Bool.false_and, Bool.false_and]
    exact rhas_1 W F T rd wr K lk W2 r2 A S D _ _ _ w (fun w => Access.rReach_any W2 r2 A S D _ _ _ w hA hA' hD hD' rfl rfl rfl) (fun w => rRight_any false W F T rd wr K lk _ w hr)
  have e : standB true W F T K = true := by rw [← reg_and_on (rd := rd) (wr := wr) (lk := lk), hr]; rfl
  rw [e]
  cases h1 : Access.rightB W2 r2 A S D
  · exact rhas_2 W F T rd wr K lk W2 r2 A S D _ _ w (fun w => Access.rReach_any W2 r2 A S D _ _ _ w hA hA' hD hD' h1 rfl rfl) (fun w => rRight_any true W F T rd wr K lk _ w hr)
  by_cases h3 : ¬ W2 = W
  · rw [decide_eq_false h3]
    exact rhas_3 W F T rd wr K lk W2 r2 A S D _ _ w (fun w => Access.rReach_any W2 r2 A S D _ _ _ w hA hA' hD hD' h1 rfl rfl) (fun w => rRight_any true W F T rd wr K lk _ w hr) h3
  · obtain rfl := Decidable.not_not.1 h3
    rw [decide_eq_true rfl]
    exact rhas_4 W2 F T rd wr K lk r2 A S D _ _ w (fun w => Access.rReach_any W2 r2 A S D _ _ _ w hA hA' hD hD' h1 rfl rfl) (fun w => rRight_any true W2 F T rd wr K lk _ w hr) _ (fun w => Reach.rIn_val _ _ _ _ _ w (by simp [reF, reT]))

end Go.Proofs.YtmkponhhinjpkaaGreat.Region
/- Contracts: Lets, Clash, Above, both ways. -/
namespace Go.Proofs.YtmkponhhinjpkaaGreat.Region
open Go.RowKit Go.Proofs.YtmkponhhinjpkaaGreat.Access
set_option linter.unusedVariables false

theorem lets_0 (o : Bool) (W F T : Int) (rd wr : Bool) (K : Int) (lk : Bool) (W2 : Int) (r2 : Bool) (A S D : Int) (w : World)
    (q0 : ∀ w, Calls Tryz.prog 53 #[reg o W F T rd wr K lk, acc W2 r2 A S D] w fun e w' => e = .returned (.bool false) ∧ Below w.heap.size w w') :
    Calls Tryz.prog 41 #[reg o W F T rd wr K lk, acc W2 r2 A S D] w fun e w' => e = .returned (.bool false) ∧ Below w.heap.size w w' := by
  go_enter Tryz.func41, Tryz.ntmps41
  go_wp2_with fail
  refine (q0 _).mono ?_
  rintro e w1 ⟨rfl, hb⟩
  have P0 := Lib.hid (((eight_new w o W F T rd wr K lk 37).alloc _).keep hb)
  have R0 := Lib.hid ((show Five _ (w.heap.size + 1) W2 r2 A S D by have := five_new (w.alloc (.cells #[.bool o, .int .i64 W, .int .u32 F, .int .u32 T, .bool rd, .bool wr, .int .i64 K, .bool lk] 37)) W2 r2 A S D 25; simpa using this).keep hb)
  have B0 := Lib.hid ((((Below.refl w.heap.size w).alloc (Nat.le_refl _) _).alloc (by simp) _).trans (hb.mono (by simp; omega)))
  clear hb
  obtain ⟨k0, k1, k2, k3, k4, k5, k6, k7⟩ := P0.out
  obtain ⟨m0, m1, m2, m3, m4⟩ := R0.out
  go_wp2_with fail
  go_ret
  exact ⟨rfl, B0.out⟩

theorem lets_1 (o : Bool) (W F T : Int) (rd wr : Bool) (K : Int) (lk : Bool) (W2 : Int) (r2 : Bool) (A S D : Int) (w : World)
    (q0 : ∀ w, Calls Tryz.prog 53 #[reg o W F T rd wr K lk, acc W2 r2 A S D] w fun e w' => e = .returned (.bool true) ∧ Below w.heap.size w w') (b : Bool) (q1 : ∀ w, Calls Tryz.prog 77 #[reg o W F T rd wr K lk, .bool r2] w fun e w' => e = .returned (.bool b) ∧ Below w.heap.size w w') :
    Calls Tryz.prog 41 #[reg o W F T rd wr K lk, acc W2 r2 A S D] w fun e w' => e = .returned (.bool b) ∧ Below w.heap.size w w' := by
  go_enter Tryz.func41, Tryz.ntmps41
  go_wp2_with fail
  refine (q0 _).mono ?_
  rintro e w1 ⟨rfl, hb⟩
  have P0 := Lib.hid (((eight_new w o W F T rd wr K lk 37).alloc _).keep hb)
  have R0 := Lib.hid ((show Five _ (w.heap.size + 1) W2 r2 A S D by have := five_new (w.alloc (.cells #[.bool o, .int .i64 W, .int .u32 F, .int .u32 T, .bool rd, .bool wr, .int .i64 K, .bool lk] 37)) W2 r2 A S D 25; simpa using this).keep hb)
  have B0 := Lib.hid ((((Below.refl w.heap.size w).alloc (Nat.le_refl _) _).alloc (by simp) _).trans (hb.mono (by simp; omega)))
  clear hb
  obtain ⟨k0, k1, k2, k3, k4, k5, k6, k7⟩ := P0.out
  obtain ⟨m0, m1, m2, m3, m4⟩ := R0.out
  go_wp2_with fail
  refine (q1 _).mono ?_
  rintro e w2 ⟨rfl, hb⟩
  have B1 := Lib.hid (B0.out.trans (hb.mono B0.out.size))
  clear hb
  go_wp2_with fail
  go_ret
  exact ⟨rfl, B1.out⟩

theorem Lets_any (o : Bool) (W F T : Int) (rd wr : Bool) (K : Int) (lk : Bool) (W2 : Int) (r2 : Bool) (A S D : Int) (b : Bool) (w : World) (hA : 0 ≤ A) (hA' : A < 4294967296) (hD : 0 ≤ D) (hD' : D < 4294967296) (hb : letsV o W F T rd wr K W2 r2 A S D = b) :
    Calls Tryz.prog 41 #[reg o W F T rd wr K lk, acc W2 r2 A S D] w fun e w' => e = .returned (.bool b) ∧ Below w.heap.size w w' := by
  subst hb
  unfold letsV
  cases h1 : hasV o W F T K W2 r2 A S D
  · exact lets_0 o W F T rd wr K lk W2 r2 A S D w (fun w => Has_any o W F T rd wr K lk W2 r2 A S D _ w hA hA' hD hD' h1)
  · exact lets_1 o W F T rd wr K lk W2 r2 A S D w (fun w => Has_any o W F T rd wr K lk W2 r2 A S D _ w hA hA' hD hD' h1) _ (fun w => open_any o W F T rd wr K lk _ _ w (by simp))

theorem rlets_0 (o : Bool) (W F T : Int) (rd wr : Bool) (K : Int) (lk : Bool) (W2 : Int) (A S D : Int) (w : World)
    (q0 : ∀ w, Calls Tryz.prog 48 #[reg o W F T rd wr K lk, acc W2 false A S D] w fun e w' => e = .returned (.bool false) ∧ Below w.heap.size w w') :
    Calls Tryz.prog 52 #[reg o W F T rd wr K lk, acc W2 false A S D] w fun e w' => e = .returned (.bool false) ∧ Below w.heap.size w w' := by
  go_enter Tryz.func52, Tryz.ntmps52
  go_wp2_with fail
  refine (q0 _).mono ?_
  rintro e w1 ⟨rfl, hb⟩
  have P0 := Lib.hid (((eight_new w o W F T rd wr K lk 37).alloc _).keep hb)
  have R0 := Lib.hid ((show Five _ (w.heap.size + 1) W2 false A S D by have := five_new (w.alloc (.cells #[.bool o, .int .i64 W, .int .u32 F, .int .u32 T, .bool rd, .bool wr, .int .i64 K, .bool lk] 37)) W2 false A S D 25; simpa using this).keep hb)
  have B0 := Lib.hid ((((Below.refl w.heap.size w).alloc (Nat.le_refl _) _).alloc (by simp) _).trans (hb.mono (by simp; omega)))
  clear hb
  obtain ⟨k0, k1, k2, k3, k4, k5, k6, k7⟩ := P0.out
  obtain ⟨m0, m1, m2, m3, m4⟩ := R0.out
  go_wp2_with fail
  go_ret
  exact ⟨rfl, B0.out⟩

theorem rlets_1 (o : Bool) (W F T : Int) (rd wr : Bool) (K : Int) (lk : Bool) (W2 : Int) (A S D : Int) (w : World)
    (q0 : ∀ w, Calls Tryz.prog 48 #[reg o W F T rd wr K lk, acc W2 false A S D] w fun e w' => e = .returned (.bool true) ∧ Below w.heap.size w w') :
    Calls Tryz.prog 52 #[reg o W F T rd wr K lk, acc W2 false A S D] w fun e w' => e = .returned (.bool rd) ∧ Below w.heap.size w w' := by
  go_enter Tryz.func52, Tryz.ntmps52
  go_wp2_with fail
  refine (q0 _).mono ?_
  rintro e w1 ⟨rfl, hb⟩
  have P0 := Lib.hid (((eight_new w o W F T rd wr K lk 37).alloc _).keep hb)
  have R0 := Lib.hid ((show Five _ (w.heap.size + 1) W2 false A S D by have := five_new (w.alloc (.cells #[.bool o, .int .i64 W, .int .u32 F, .int .u32 T, .bool rd, .bool wr, .int .i64 K, .bool lk] 37)) W2 false A S D 25; simpa using this).keep hb)
  have B0 := Lib.hid ((((Below.refl w.heap.size w).alloc (Nat.le_refl _) _).alloc (by simp) _).trans (hb.mono (by simp; omega)))
  clear hb
  obtain ⟨k0, k1, k2, k3, k4, k5, k6, k7⟩ := P0.out
  obtain ⟨m0, m1, m2, m3, m4⟩ := R0.out
  go_wp2_with fail
  go_ret
  exact ⟨rfl, B0.out⟩

theorem rlets_2 (o : Bool) (W F T : Int) (rd wr : Bool) (K : Int) (lk : Bool) (W2 : Int) (A S D : Int) (w : World)
    (q0 : ∀ w, Calls Tryz.prog 48 #[reg o W F T rd wr K lk, acc W2 true A S D] w fun e w' => e = .returned (.bool false) ∧ Below w.heap.size w w') :
    Calls Tryz.prog 52 #[reg o W F T rd wr K lk, acc W2 true A S D] w fun e w' => e = .returned (.bool false) ∧ Below w.heap.size w w' := by
  go_enter Tryz.func52, Tryz.ntmps52
  go_wp2_with fail
  refine (q0 _).mono ?_
  rintro e w1 ⟨rfl, hb⟩
  have P0 := Lib.hid (((eight_new w o W F T rd wr K lk 37).alloc _).keep hb)
  have R0 := Lib.hid ((show Five _ (w.heap.size + 1) W2 true A S D by have := five_new (w.alloc (.cells #[.bool o, .int .i64 W, .int .u32 F, .int .u32 T, .bool rd, .bool wr, .int .i64 K, .bool lk] 37)) W2 true A S D 25; simpa using this).keep hb)
  have B0 := Lib.hid ((((Below.refl w.heap.size w).alloc (Nat.le_refl _) _).alloc (by simp) _).trans (hb.mono (by simp; omega)))
  clear hb
  obtain ⟨k0, k1, k2, k3, k4, k5, k6, k7⟩ := P0.out
  obtain ⟨m0, m1, m2, m3, m4⟩ := R0.out
  go_wp2_with fail
  go_ret
  exact ⟨rfl, B0.out⟩

theorem rlets_3 (o : Bool) (W F T : Int) (rd wr : Bool) (K : Int) (lk : Bool) (W2 : Int) (A S D : Int) (w : World)
    (q0 : ∀ w, Calls Tryz.prog 48 #[reg o W F T rd wr K lk, acc W2 true A S D] w fun e w' => e = .returned (.bool true) ∧ Below w.heap.size w w') :
    Calls Tryz.prog 52 #[reg o W F T rd wr K lk, acc W2 true A S D] w fun e w' => e = .returned (.bool wr) ∧ Below w.heap.size w w' := by
  go_enter Tryz.func52, Tryz.ntmps52
  go_wp2_with fail
  refine (q0 _).mono ?_
  rintro e w1 ⟨rfl, hb⟩
  have P0 := Lib.hid (((eight_new w o W F T rd wr K lk 37).alloc _).keep hb)
  have R0 := Lib.hid ((show Five _ (w.heap.size + 1) W2 true A S D by have := five_new (w.alloc (.cells #[.bool o, .int .i64 W, .int .u32 F, .int .u32 T, .bool rd, .bool wr, .int .i64 K, .bool lk] 37)) W2 true A S D 25; simpa using this).keep hb)
  have B0 := Lib.hid ((((Below.refl w.heap.size w).alloc (Nat.le_refl _) _).alloc (by simp) _).trans (hb.mono (by simp; omega)))
  clear hb
  obtain ⟨k0, k1, k2, k3, k4, k5, k6, k7⟩ := P0.out
  obtain ⟨m0, m1, m2, m3, m4⟩ := R0.out
  go_wp2_with fail
  go_ret
  exact ⟨rfl, B0.out⟩

theorem rLets_any (o : Bool) (W F T : Int) (rd wr : Bool) (K : Int) (lk : Bool) (W2 : Int) (r2 : Bool) (A S D : Int) (b : Bool) (w : World) (hA : 0 ≤ A) (hA' : A < 4294967296) (hD : 0 ≤ D) (hD' : D < 4294967296) (hb : letsV o W F T rd wr K W2 r2 A S D = b) :
    Calls Tryz.prog 52 #[reg o W F T rd wr K lk, acc W2 r2 A S D] w fun e w' => e = .returned (.bool b) ∧ Below w.heap.size w w' := by
  subst hb
  unfold letsV
  cases r2
  · cases h1 : hasV o W F T K W2 false A S D
    · exact rlets_0 o W F T rd wr K lk W2 A S D w (fun w => rHas_any o W F T rd wr K lk W2 false A S D _ w hA hA' hD hD' h1)
    · simpa using rlets_1 o W F T rd wr K lk W2 A S D w (fun w => rHas_any o W F T rd wr K lk W2 false A S D _ w hA hA' hD hD' h1)
  · cases h1 : hasV o W F T K W2 true A S D
    · exact rlets_2 o W F T rd wr K lk W2 A S D w (fun w => rHas_any o W F T rd wr K lk W2 true A S D _ w hA hA' hD hD' h1)
    · simpa using rlets_3 o W F T rd wr K lk W2 A S D w (fun w => rHas_any o W F T rd wr K lk W2 true A S D _ w hA hA' hD hD' h1)

theorem bs_0 (o : Bool) (W F T : Int) (rd wr : Bool) (K : Int) (lk : Bool) (p : Bool) (V G U : Int) (re we : Bool) (L : Int) (ke : Bool) (w : World)
    (q0 : ∀ w, Calls Tryz.prog 101 #[reg o W F T rd wr K lk] w fun e w' => e = .returned (.bool false) ∧ Below w.heap.size w w') :
    Calls Tryz.prog 99 #[reg o W F T rd wr K lk, reg p V G U re we L ke] w fun e w' => e = .returned (.bool false) ∧ Below w.heap.size w w' := by
  go_enter Tryz.func99, Tryz.ntmps99
  go_wp2_with fail
  refine (q0 _).mono ?_
  rintro e w1 ⟨rfl, hb⟩
  have P0 := Lib.hid (((eight_new w o W F T rd wr K lk 37).alloc _).keep hb)
  have R0 := Lib.hid ((show Eight _ (w.heap.size + 1) p V G U re we L ke by have := eight_new (w.alloc (.cells #[.bool o, .int .i64 W, .int .u32 F, .int .u32 T, .bool rd, .bool wr, .int .i64 K, .bool lk] 37)) p V G U re we L ke 37; simpa using this).keep hb)
  have B0 := Lib.hid ((((Below.refl w.heap.size w).alloc (Nat.le_refl _) _).alloc (by simp) _).trans (hb.mono (by simp; omega)))
  clear hb
  obtain ⟨k0, k1, k2, k3, k4, k5, k6, k7⟩ := P0.out
  obtain ⟨m0, m1, m2, m3, m4, m5, m6, m7⟩ := R0.out
  go_wp2_with fail
  go_ret
  exact ⟨rfl, B0.out⟩

theorem bs_1 (o : Bool) (W F T : Int) (rd wr : Bool) (K : Int) (lk : Bool) (p : Bool) (V G U : Int) (re we : Bool) (L : Int) (ke : Bool) (w : World)
    (q0 : ∀ w, Calls Tryz.prog 101 #[reg o W F T rd wr K lk] w fun e w' => e = .returned (.bool true) ∧ Below w.heap.size w w') (b : Bool) (q1 : ∀ w, Calls Tryz.prog 101 #[reg p V G U re we L ke] w fun e w' => e = .returned (.bool b) ∧ Below w.heap.size w w') :
    Calls Tryz.prog 99 #[reg o W F T rd wr K lk, reg p V G U re we L ke] w fun e w' => e = .returned (.bool b) ∧ Below w.heap.size w w' := by
  go_enter Tryz.func99, Tryz.ntmps99
  go_wp2_with fail
  refine (q0 _).mono ?_
  rintro e w1 ⟨rfl, hb⟩
  have P0 := Lib.hid (((eight_new w o W F T rd wr K lk 37).alloc _).keep hb)
  have R0 := Lib.hid ((show Eight _ (w.heap.size + 1) p V G U re we L ke by have := eight_new (w.alloc (.cells #[.bool o, .int .i64 W, .int .u32 F, .int .u32 T, .bool rd, .bool wr, .int .i64 K, .bool lk] 37)) p V G U re we L ke 37; simpa using this).keep hb)
  have B0 := Lib.hid ((((Below.refl w.heap.size w).alloc (Nat.le_refl _) _).alloc (by simp) _).trans (hb.mono (by simp; omega)))
  clear hb
  obtain ⟨k0, k1, k2, k3, k4, k5, k6, k7⟩ := P0.out
  obtain ⟨m0, m1, m2, m3, m4, m5, m6, m7⟩ := R0.out
  go_wp2_with fail
  refine (q1 _).mono ?_
  rintro e w2 ⟨rfl, hb⟩
  have B1 := Lib.hid (B0.out.trans (hb.mono B0.out.size))
  clear hb
  go_wp2_with fail
  go_ret
  exact ⟨rfl, B1.out⟩

theorem both_any (o : Bool) (W F T : Int) (rd wr : Bool) (K : Int) (lk : Bool) (p : Bool) (V G U : Int) (re we : Bool) (L : Int) (ke : Bool) (b : Bool) (w : World) (hb : (standB o W F T K && standB p V G U L) = b) :
    Calls Tryz.prog 99 #[reg o W F T rd wr K lk, reg p V G U re we L ke] w fun e w' => e = .returned (.bool b) ∧ Below w.heap.size w w' := by
  subst hb
  cases h1 : standB o W F T K
  · exact bs_0 o W F T rd wr K lk p V G U re we L ke w (fun w => stands_any o W F T rd wr K lk _ w h1)
  · exact bs_1 o W F T rd wr K lk p V G U re we L ke w (fun w => stands_any o W F T rd wr K lk _ w h1) _ (fun w => stands_any p V G U re we L ke _ w (by simp))

theorem clash_0 (o : Bool) (W F T : Int) (rd wr : Bool) (K : Int) (lk : Bool) (p : Bool) (V G U : Int) (re we : Bool) (L : Int) (ke : Bool) (x y : Int) (m : Bool) (w : World)
    (q0 : ∀ w, Calls Tryz.prog 102 #[.agg #[.int .u32 F, .int .u32 T], .agg #[.int .u32 G, .int .u32 U]] w fun e w' => e = .returned (.tuple #[.agg #[.int .u32 x, .int .u32 y], .bool m]) ∧ Below w.heap.size w w') (q1 : ∀ w, Calls Tryz.prog 99 #[reg o W F T rd wr K lk, reg p V G U re we L ke] w fun e w' => e = .returned (.bool false) ∧ Below w.heap.size w w') :
    Calls Tryz.prog 76 #[reg o W F T rd wr K lk, reg p V G U re we L ke] w fun e w' => e = .returned (.bool false) ∧ Below w.heap.size w w' := by
  go_enter Tryz.func76, Tryz.ntmps76
  go_wp2_with fail
  refine (q0 _).mono ?_
  rintro e w1 ⟨rfl, hb⟩
  have P0 := Lib.hid (((eight_new w o W F T rd wr K lk 37).alloc _).keep hb)
  have R0 := Lib.hid ((show Eight _ (w.heap.size + 1) p V G U re we L ke by have := eight_new (w.alloc (.cells #[.bool o, .int .i64 W, .int .u32 F, .int .u32 T, .bool rd, .bool wr, .int .i64 K, .bool lk] 37)) p V G U re we L ke 37; simpa using this).keep hb)
  have B0 := Lib.hid ((((Below.refl w.heap.size w).alloc (Nat.le_refl _) _).alloc (by simp) _).trans (hb.mono (by simp; omega)))
  clear hb
  have T1 := Lib.hid (Reach.two_new w1 x y 35)
  have P1 := Lib.hid (P0.out.alloc (.cells #[.int .u32 x, .int .u32 y] 35))
  have R1 := Lib.hid (R0.out.alloc (.cells #[.int .u32 x, .int .u32 y] 35))
  have B1 := Lib.hid (B0.out.alloc B0.out.size (.cells #[.int .u32 x, .int .u32 y] 35))
  clear P0 R0 B0
  obtain ⟨k0, k1, k2, k3, k4, k5, k6, k7⟩ := P1.out
  obtain ⟨m0, m1, m2, m3, m4, m5, m6, m7⟩ := R1.out
  go_wp2_with fail
  refine (q1 _).mono ?_
  rintro e w3 ⟨rfl, hb⟩
  have P2 := Lib.hid (P1.out.keep hb)
  have R2 := Lib.hid (R1.out.keep hb)
  have B2 := Lib.hid (B1.out.trans (hb.mono B1.out.size))
  clear hb
  clear k0 k1 k2 k3 k4 k5 k6 k7
  clear m0 m1 m2 m3 m4 m5 m6 m7
  obtain ⟨k0, k1, k2, k3, k4, k5, k6, k7⟩ := P2.out
  obtain ⟨m0, m1, m2, m3, m4, m5, m6, m7⟩ := R2.out
  go_wp2_with fail
  go_ret
  exact ⟨rfl, B2.out⟩

theorem clash_1 (o : Bool) (W F T : Int) (rd wr : Bool) (K : Int) (lk : Bool) (p : Bool) (G U : Int) (re we : Bool) (L : Int) (ke : Bool) (x y : Int) (m : Bool) (w : World)
    (q0 : ∀ w, Calls Tryz.prog 102 #[.agg #[.int .u32 F, .int .u32 T], .agg #[.int .u32 G, .int .u32 U]] w fun e w' => e = .returned (.tuple #[.agg #[.int .u32 x, .int .u32 y], .bool m]) ∧ Below w.heap.size w w') (q1 : ∀ w, Calls Tryz.prog 99 #[reg o W F T rd wr K lk, reg p W G U re we L ke] w fun e w' => e = .returned (.bool true) ∧ Below w.heap.size w w') :
    Calls Tryz.prog 76 #[reg o W F T rd wr K lk, reg p W G U re we L ke] w fun e w' => e = .returned (.bool false) ∧ Below w.heap.size w w' := by
  go_enter Tryz.func76, Tryz.ntmps76
  go_wp2_with fail
  refine (q0 _).mono ?_
  rintro e w1 ⟨rfl, hb⟩
  have P0 := Lib.hid (((eight_new w o W F T rd wr K lk 37).alloc _).keep hb)
  have R0 := Lib.hid ((show Eight _ (w.heap.size + 1) p W G U re we L ke by have := eight_new (w.alloc (.cells #[.bool o, .int .i64 W, .int .u32 F, .int .u32 T, .bool rd, .bool wr, .int .i64 K, .bool lk] 37)) p W G U re we L ke 37; simpa using this).keep hb)
  have B0 := Lib.hid ((((Below.refl w.heap.size w).alloc (Nat.le_refl _) _).alloc (by simp) _).trans (hb.mono (by simp; omega)))
  clear hb
  have T1 := Lib.hid (Reach.two_new w1 x y 35)
  have P1 := Lib.hid (P0.out.alloc (.cells #[.int .u32 x, .int .u32 y] 35))
  have R1 := Lib.hid (R0.out.alloc (.cells #[.int .u32 x, .int .u32 y] 35))
  have B1 := Lib.hid (B0.out.alloc B0.out.size (.cells #[.int .u32 x, .int .u32 y] 35))
  clear P0 R0 B0
  obtain ⟨k0, k1, k2, k3, k4, k5, k6, k7⟩ := P1.out
  obtain ⟨m0, m1, m2, m3, m4, m5, m6, m7⟩ := R1.out
  go_wp2_with fail
  refine (q1 _).mono ?_
  rintro e w3 ⟨rfl, hb⟩
  have P2 := Lib.hid (P1.out.keep hb)
  have R2 := Lib.hid (R1.out.keep hb)
  have B2 := Lib.hid (B1.out.trans (hb.mono B1.out.size))
  clear hb
  clear k0 k1 k2 k3 k4 k5 k6 k7
  clear m0 m1 m2 m3 m4 m5 m6 m7
  obtain ⟨k0, k1, k2, k3, k4, k5, k6, k7⟩ := P2.out
  obtain ⟨m0, m1, m2, m3, m4, m5, m6, m7⟩ := R2.out
  go_wp2_with fail
  go_ret
  exact ⟨rfl, B2.out⟩

theorem clash_2 (o : Bool) (W F T : Int) (rd wr : Bool) (K : Int) (lk : Bool) (p : Bool) (V G U : Int) (re we : Bool) (L : Int) (ke : Bool) (x y : Int) (m : Bool) (w : World)
    (q0 : ∀ w, Calls Tryz.prog 102 #[.agg #[.int .u32 F, .int .u32 T], .agg #[.int .u32 G, .int .u32 U]] w fun e w' => e = .returned (.tuple #[.agg #[.int .u32 x, .int .u32 y], .bool m]) ∧ Below w.heap.size w w') (q1 : ∀ w, Calls Tryz.prog 99 #[reg o W F T rd wr K lk, reg p V G U re we L ke] w fun e w' => e = .returned (.bool true) ∧ Below w.heap.size w w') (h : ¬ W = V) :
    Calls Tryz.prog 76 #[reg o W F T rd wr K lk, reg p V G U re we L ke] w fun e w' => e = .returned (.bool m) ∧ Below w.heap.size w w' := by
  go_enter Tryz.func76, Tryz.ntmps76
  go_wp2_with fail
  refine (q0 _).mono ?_
  rintro e w1 ⟨rfl, hb⟩
  have P0 := Lib.hid (((eight_new w o W F T rd wr K lk 37).alloc _).keep hb)
  have R0 := Lib.hid ((show Eight _ (w.heap.size + 1) p V G U re we L ke by have := eight_new (w.alloc (.cells #[.bool o, .int .i64 W, .int .u32 F, .int .u32 T, .bool rd, .bool wr, .int .i64 K, .bool lk] 37)) p V G U re we L ke 37; simpa using this).keep hb)
  have B0 := Lib.hid ((((Below.refl w.heap.size w).alloc (Nat.le_refl _) _).alloc (by simp) _).trans (hb.mono (by simp; omega)))
  clear hb
  have T1 := Lib.hid (Reach.two_new w1 x y 35)
  have P1 := Lib.hid (P0.out.alloc (.cells #[.int .u32 x, .int .u32 y] 35))
  have R1 := Lib.hid (R0.out.alloc (.cells #[.int .u32 x, .int .u32 y] 35))
  have B1 := Lib.hid (B0.out.alloc B0.out.size (.cells #[.int .u32 x, .int .u32 y] 35))
  clear P0 R0 B0
  obtain ⟨k0, k1, k2, k3, k4, k5, k6, k7⟩ := P1.out
  obtain ⟨m0, m1, m2, m3, m4, m5, m6, m7⟩ := R1.out
  go_wp2_with fail
  refine (q1 _).mono ?_
  rintro e w3 ⟨rfl, hb⟩
  have P2 := Lib.hid (P1.out.keep hb)
  have R2 := Lib.hid (R1.out.keep hb)
  have B2 := Lib.hid (B1.out.trans (hb.mono B1.out.size))
  clear hb
  clear k0 k1 k2 k3 k4 k5 k6 k7
  clear m0 m1 m2 m3 m4 m5 m6 m7
  obtain ⟨k0, k1, k2, k3, k4, k5, k6, k7⟩ := P2.out
  obtain ⟨m0, m1, m2, m3, m4, m5, m6, m7⟩ := R2.out
  go_wp2_with fail
  go_ret
  exact ⟨ret_bool (by simp [h]), B2.out⟩

theorem Clash_any (o : Bool) (W F T : Int) (rd wr : Bool) (K : Int) (lk : Bool) (p : Bool) (V G U : Int) (re we : Bool) (L : Int) (ke : Bool) (b : Bool) (w : World) (hb : clashV o W F T K p V G U L = b) :
    Calls Tryz.prog 76 #[reg o W F T rd wr K lk, reg p V G U re we L ke] w fun e w' => e = .returned (.bool b) ∧ Below w.heap.size w w' := by
  subst hb
  unfold clashV
  cases h1 : (standB o W F T K && standB p V G U L)
  · exact clash_0 o W F T rd wr K lk p V G U re we L ke _ _ _ w (fun w => Reach.Meet_val F T G U _ _ _ w rfl rfl rfl) (fun w => both_any o W F T rd wr K lk p V G U re we L ke _ w h1)
  by_cases h : W = V
  · subst h
    rw [decide_eq_false (by simp)]
    exact clash_1 o W F T rd wr K lk p G U re we L ke _ _ _ w (fun w => Reach.Meet_val F T G U _ _ _ w rfl rfl rfl) (fun w => both_any o W F T rd wr K lk p W G U re we L ke _ w h1)
  · rw [decide_eq_true h]
    simpa using clash_2 o W F T rd wr K lk p V G U re we L ke _ _ _ w (fun w => Reach.Meet_val F T G U _ _ _ w rfl rfl rfl) (fun w => both_any o W F T rd wr K lk p V G U re we L ke _ w h1) h

theorem above_0 (o : Bool) (W F T : Int) (rd wr : Bool) (K : Int) (lk : Bool) (p : Bool) (V G U : Int) (re we : Bool) (L : Int) (ke : Bool) (w : World)
    (q0 : ∀ w, Calls Tryz.prog 99 #[reg o W F T rd wr K lk, reg p V G U re we L ke] w fun e w' => e = .returned (.bool false) ∧ Below w.heap.size w w') :
    Calls Tryz.prog 73 #[reg o W F T rd wr K lk, reg p V G U re we L ke] w fun e w' => e = .returned (.bool false) ∧ Below w.heap.size w w' := by
  go_enter Tryz.func73, Tryz.ntmps73
  go_wp2_with fail
  refine (q0 _).mono ?_
  rintro e w1 ⟨rfl, hb⟩
  have P0 := Lib.hid (((eight_new w o W F T rd wr K lk 37).alloc _).keep hb)
  have R0 := Lib.hid ((show Eight _ (w.heap.size + 1) p V G U re we L ke by have := eight_new (w.alloc (.cells #[.bool o, .int .i64 W, .int .u32 F, .int .u32 T, .bool rd, .bool wr, .int .i64 K, .bool lk] 37)) p V G U re we L ke 37; simpa using this).keep hb)
  have B0 := Lib.hid ((((Below.refl w.heap.size w).alloc (Nat.le_refl _) _).alloc (by simp) _).trans (hb.mono (by simp; omega)))
  clear hb
  obtain ⟨k0, k1, k2, k3, k4, k5, k6, k7⟩ := P0.out
  obtain ⟨m0, m1, m2, m3, m4, m5, m6, m7⟩ := R0.out
  go_wp2_with fail
  go_ret
  exact ⟨rfl, B0.out⟩

theorem above_1 (o : Bool) (W F T : Int) (rd wr : Bool) (K : Int) (lk : Bool) (p : Bool) (V G U : Int) (re we : Bool) (L : Int) (ke : Bool) (w : World)
    (q0 : ∀ w, Calls Tryz.prog 99 #[reg o W F T rd wr K lk, reg p V G U re we L ke] w fun e w' => e = .returned (.bool true) ∧ Below w.heap.size w w') :
    Calls Tryz.prog 73 #[reg o W F T rd wr K lk, reg p V G U re we L ke] w fun e w' => e = .returned (.bool (decide (L < K))) ∧ Below w.heap.size w w' := by
  go_enter Tryz.func73, Tryz.ntmps73
  go_wp2_with fail
  refine (q0 _).mono ?_
  rintro e w1 ⟨rfl, hb⟩
  have P0 := Lib.hid (((eight_new w o W F T rd wr K lk 37).alloc _).keep hb)
  have R0 := Lib.hid ((show Eight _ (w.heap.size + 1) p V G U re we L ke by have := eight_new (w.alloc (.cells #[.bool o, .int .i64 W, .int .u32 F, .int .u32 T, .bool rd, .bool wr, .int .i64 K, .bool lk] 37)) p V G U re we L ke 37; simpa using this).keep hb)
  have B0 := Lib.hid ((((Below.refl w.heap.size w).alloc (Nat.le_refl _) _).alloc (by simp) _).trans (hb.mono (by simp; omega)))
  clear hb
  obtain ⟨k0, k1, k2, k3, k4, k5, k6, k7⟩ := P0.out
  obtain ⟨m0, m1, m2, m3, m4, m5, m6, m7⟩ := R0.out
  go_wp2_with fail
  go_ret
  exact ⟨rfl, B0.out⟩

theorem Above_any (o : Bool) (W F T : Int) (rd wr : Bool) (K : Int) (lk : Bool) (p : Bool) (V G U : Int) (re we : Bool) (L : Int) (ke : Bool) (b : Bool) (w : World) (hb : aboveV o W F T K p V G U L = b) :
    Calls Tryz.prog 73 #[reg o W F T rd wr K lk, reg p V G U re we L ke] w fun e w' => e = .returned (.bool b) ∧ Below w.heap.size w w' := by
  subst hb
  unfold aboveV
  cases h1 : (standB o W F T K && standB p V G U L)
  · exact above_0 o W F T rd wr K lk p V G U re we L ke w (fun w => both_any o W F T rd wr K lk p V G U re we L ke _ w h1)
  · simpa using above_1 o W F T rd wr K lk p V G U re we L ke w (fun w => both_any o W F T rd wr K lk p V G U re we L ke _ w h1)

theorem rclash_0 (o : Bool) (W F T : Int) (rd wr : Bool) (K : Int) (lk : Bool) (p : Bool) (V G U : Int) (re we : Bool) (L : Int) (ke : Bool) (x y : Int) (m : Bool) (w : World)
    (q0 : ∀ w, Calls Tryz.prog 85 #[.agg #[.int .u32 F, .int .u32 T], .agg #[.int .u32 G, .int .u32 U]] w fun e w' => e = .returned (.tuple #[.agg #[.int .u32 x, .int .u32 y], .bool m]) ∧ Below w.heap.size w w') (q1 : ∀ w, Calls Tryz.prog 50 #[reg o W F T rd wr K lk] w fun e w' => e = .returned (.bool false) ∧ Below w.heap.size w w') :
    Calls Tryz.prog 51 #[reg o W F T rd wr K lk, reg p V G U re we L ke] w fun e w' => e = .returned (.bool false) ∧ Below w.heap.size w w' := by
  go_enter Tryz.func51, Tryz.ntmps51
  go_wp2_with fail
  refine (q0 _).mono ?_
  rintro e w1 ⟨rfl, hb⟩
  have P0 := Lib.hid (((eight_new w o W F T rd wr K lk 37).alloc _).keep hb)
  have R0 := Lib.hid ((show Eight _ (w.heap.size + 1) p V G U re we L ke by have := eight_new (w.alloc (.cells #[.bool o, .int .i64 W, .int .u32 F, .int .u32 T, .bool rd, .bool wr, .int .i64 K, .bool lk] 37)) p V G U re we L ke 37; simpa using this).keep hb)
  have B0 := Lib.hid ((((Below.refl w.heap.size w).alloc (Nat.le_refl _) _).alloc (by simp) _).trans (hb.mono (by simp; omega)))
  clear hb
  have T1 := Lib.hid (Reach.two_new w1 x y 35)
  have P1 := Lib.hid (P0.out.alloc (.cells #[.int .u32 x, .int .u32 y] 35))
  have R1 := Lib.hid (R0.out.alloc (.cells #[.int .u32 x, .int .u32 y] 35))
  have B1 := Lib.hid (B0.out.alloc B0.out.size (.cells #[.int .u32 x, .int .u32 y] 35))
  clear P0 R0 B0
  obtain ⟨k0, k1, k2, k3, k4, k5, k6, k7⟩ := P1.out
  obtain ⟨m0, m1, m2, m3, m4, m5, m6, m7⟩ := R1.out
  go_wp2_with fail
  refine (q1 _).mono ?_
  rintro e w3 ⟨rfl, hb⟩
  have P2 := Lib.hid (P1.out.keep hb)
  have R2 := Lib.hid (R1.out.keep hb)
  have B2 := Lib.hid (B1.out.trans (hb.mono B1.out.size))
  clear hb
  clear k0 k1 k2 k3 k4 k5 k6 k7
  clear m0 m1 m2 m3 m4 m5 m6 m7
  obtain ⟨k0, k1, k2, k3, k4, k5, k6, k7⟩ := P2.out
  obtain ⟨m0, m1, m2, m3, m4, m5, m6, m7⟩ := R2.out
  go_wp2_with fail
  go_ret
  exact ⟨rfl, B2.out⟩

theorem rclash_1 (o : Bool) (W F T : Int) (rd wr : Bool) (K : Int) (lk : Bool) (p : Bool) (V G U : Int) (re we : Bool) (L : Int) (ke : Bool) (x y : Int) (m : Bool) (w : World)
    (q0 : ∀ w, Calls Tryz.prog 85 #[.agg #[.int .u32 F, .int .u32 T], .agg #[.int .u32 G, .int .u32 U]] w fun e w' => e = .returned (.tuple #[.agg #[.int .u32 x, .int .u32 y], .bool m]) ∧ Below w.heap.size w w') (q1 : ∀ w, Calls Tryz.prog 50 #[reg o W F T rd wr K lk] w fun e w' => e = .returned (.bool true) ∧ Below w.heap.size w w') (q2 : ∀ w, Calls Tryz.prog 50 #[reg p V G U re we L ke] w fun e w' => e = .returned (.bool false) ∧ Below w.heap.size w w') :
    Calls Tryz.prog 51 #[reg o W F T rd wr K lk, reg p V G U re we L ke] w fun e w' => e = .returned (.bool false) ∧ Below w.heap.size w w' := by
  go_enter Tryz.func51, Tryz.ntmps51
  go_wp2_with fail
  refine (q0 _).mono ?_
  rintro e w1 ⟨rfl, hb⟩
  have P0 := Lib.hid (((eight_new w o W F T rd wr K lk 37).alloc _).keep hb)
  have R0 := Lib.hid ((show Eight _ (w.heap.size + 1) p V G U re we L ke by have := eight_new (w.alloc (.cells #[.bool o, .int .i64 W, .int .u32 F, .int .u32 T, .bool rd, .bool wr, .int .i64 K, .bool lk] 37)) p V G U re we L ke 37; simpa using this).keep hb)
  have B0 := Lib.hid ((((Below.refl w.heap.size w).alloc (Nat.le_refl _) _).alloc (by simp) _).trans (hb.mono (by simp; omega)))
  clear hb
  have T1 := Lib.hid (Reach.two_new w1 x y 35)
  have P1 := Lib.hid (P0.out.alloc (.cells #[.int .u32 x, .int .u32 y] 35))
  have R1 := Lib.hid (R0.out.alloc (.cells #[.int .u32 x, .int .u32 y] 35))
  have B1 := Lib.hid (B0.out.alloc B0.out.size (.cells #[.int .u32 x, .int .u32 y] 35))
  clear P0 R0 B0
  obtain ⟨k0, k1, k2, k3, k4, k5, k6, k7⟩ := P1.out
  obtain ⟨m0, m1, m2, m3, m4, m5, m6, m7⟩ := R1.out
  go_wp2_with fail
  refine (q1 _).mono ?_
  rintro e w3 ⟨rfl, hb⟩
  have P2 := Lib.hid (P1.out.keep hb)
  have R2 := Lib.hid (R1.out.keep hb)
  have B2 := Lib.hid (B1.out.trans (hb.mono B1.out.size))
  clear hb
  clear k0 k1 k2 k3 k4 k5 k6 k7
  clear m0 m1 m2 m3 m4 m5 m6 m7
  obtain ⟨k0, k1, k2, k3, k4, k5, k6, k7⟩ := P2.out
  obtain ⟨m0, m1, m2, m3, m4, m5, m6, m7⟩ := R2.out
  go_wp2_with fail
  refine (q2 _).mono ?_
  rintro e w4 ⟨rfl, hb⟩
  have P3 := Lib.hid (P2.out.keep hb)
  have R3 := Lib.hid (R2.out.keep hb)
  have B3 := Lib.hid (B2.out.trans (hb.mono B2.out.size))
  clear hb
  clear k0 k1 k2 k3 k4 k5 k6 k7
  clear m0 m1 m2 m3 m4 m5 m6 m7
  obtain ⟨k0, k1, k2, k3, k4, k5, k6, k7⟩ := P3.out
  obtain ⟨m0, m1, m2, m3, m4, m5, m6, m7⟩ := R3.out
  go_wp2_with fail
  go_ret
  exact ⟨rfl, B3.out⟩

theorem rclash_2 (W F T : Int) (rd wr : Bool) (K : Int) (lk : Bool) (p : Bool) (V G U : Int) (re we : Bool) (L : Int) (ke : Bool) (x y : Int) (m : Bool) (w : World)
    (q0 : ∀ w, Calls Tryz.prog 85 #[.agg #[.int .u32 F, .int .u32 T], .agg #[.int .u32 G, .int .u32 U]] w fun e w' => e = .returned (.tuple #[.agg #[.int .u32 x, .int .u32 y], .bool m]) ∧ Below w.heap.size w w') (q1 : ∀ w, Calls Tryz.prog 50 #[reg false W F T rd wr K lk] w fun e w' => e = .returned (.bool true) ∧ Below w.heap.size w w') (q2 : ∀ w, Calls Tryz.prog 50 #[reg p V G U re we L ke] w fun e w' => e = .returned (.bool true) ∧ Below w.heap.size w w') :
    Calls Tryz.prog 51 #[reg false W F T rd wr K lk, reg p V G U re we L ke] w fun e w' => e = .returned (.bool false) ∧ Below w.heap.size w w' := by
  go_enter Tryz.func51, Tryz.ntmps51
  go_wp2_with fail
  refine (q0 _).mono ?_
  rintro e w1 ⟨rfl, hb⟩
  have P0 := Lib.hid (((eight_new w false W F T rd wr K lk 37).alloc _).keep hb)
  have R0 := Lib.hid ((show Eight _ (w.heap.size + 1) p V G U re we L ke by have := eight_new (w.alloc (.cells #[.bool false, .int .i64 W, .int .u32 F, .int .u32 T, .bool rd, .bool wr, .int .i64 K, .bool lk] 37)) p V G U re we L ke 37; simpa using this).keep hb)
  have B0 := Lib.hid ((((Below.refl w.heap.size w).alloc (Nat.le_refl _) _).alloc (by simp) _).trans (hb.mono (by simp; omega)))
  clear hb
  have T1 := Lib.hid (Reach.two_new w1 x y 35)
  have P1 := Lib.hid (P0.out.alloc (.cells #[.int .u32 x, .int .u32 y] 35))
  have R1 := Lib.hid (R0.out.alloc (.cells #[.int .u32 x, .int .u32 y] 35))
  have B1 := Lib.hid (B0.out.alloc B0.out.size (.cells #[.int .u32 x, .int .u32 y] 35))
  clear P0 R0 B0
  obtain ⟨k0, k1, k2, k3, k4, k5, k6, k7⟩ := P1.out
  obtain ⟨m0, m1, m2, m3, m4, m5, m6, m7⟩ := R1.out
  go_wp2_with fail
  refine (q1 _).mono ?_
  rintro e w3 ⟨rfl, hb⟩
  have P2 := Lib.hid (P1.out.keep hb)
  have R2 := Lib.hid (R1.out.keep hb)
  have B2 := Lib.hid (B1.out.trans (hb.mono B1.out.size))
  clear hb
  clear k0 k1 k2 k3 k4 k5 k6 k7
  clear m0 m1 m2 m3 m4 m5 m6 m7
  obtain ⟨k0, k1, k2, k3, k4, k5, k6, k7⟩ := P2.out
  obtain ⟨m0, m1, m2, m3, m4, m5, m6, m7⟩ := R2.out
  go_wp2_with fail
  refine (q2 _).mono ?_
  rintro e w4 ⟨rfl, hb⟩
  have P3 := Lib.hid (P2.out.keep hb)
  have R3 := Lib.hid (R2.out.keep hb)
  have B3 := Lib.hid (B2.out.trans (hb.mono B2.out.size))
  clear hb
  clear k0 k1 k2 k3 k4 k5 k6 k7
  clear m0 m1 m2 m3 m4 m5 m6 m7
  obtain ⟨k0, k1, k2, k3, k4, k5, k6, k7⟩ := P3.out
  obtain ⟨m0, m1, m2, m3, m4, m5, m6, m7⟩ := R3.out
  go_wp2_with fail
  go_ret
  exact ⟨rfl, B3.out⟩

theorem rclash_3 (W F T : Int) (rd wr : Bool) (K : Int) (lk : Bool) (V G U : Int) (re we : Bool) (L : Int) (ke : Bool) (x y : Int) (m : Bool) (w : World)
    (q0 : ∀ w, Calls Tryz.prog 85 #[.agg #[.int .u32 F, .int .u32 T], .agg #[.int .u32 G, .int .u32 U]] w fun e w' => e = .returned (.tuple #[.agg #[.int .u32 x, .int .u32 y], .bool m]) ∧ Below w.heap.size w w') (q1 : ∀ w, Calls Tryz.prog 50 #[reg true W F T rd wr K lk] w fun e w' => e = .returned (.bool true) ∧ Below w.heap.size w w') (q2 : ∀ w, Calls Tryz.prog 50 #[reg false V G U re we L ke] w fun e w' => e = .returned (.bool true) ∧ Below w.heap.size w w') :
    Calls Tryz.prog 51 #[reg true W F T rd wr K lk, reg false V G U re we L ke] w fun e w' => e = .returned (.bool false) ∧ Below w.heap.size w w' := by
  go_enter Tryz.func51, Tryz.ntmps51
  go_wp2_with fail
  refine (q0 _).mono ?_
  rintro e w1 ⟨rfl, hb⟩
  have P0 := Lib.hid (((eight_new w true W F T rd wr K lk 37).alloc _).keep hb)
  have R0 := Lib.hid ((show Eight _ (w.heap.size + 1) false V G U re we L ke by have := eight_new (w.alloc (.cells #[.bool true, .int .i64 W, .int .u32 F, .int .u32 T, .bool rd, .bool wr, .int .i64 K, .bool lk] 37)) false V G U re we L ke 37; simpa using this).keep hb)
  have B0 := Lib.hid ((((Below.refl w.heap.size w).alloc (Nat.le_refl _) _).alloc (by simp) _).trans (hb.mono (by simp; omega)))
  clear hb
  have T1 := Lib.hid (Reach.two_new w1 x y 35)
  have P1 := Lib.hid (P0.out.alloc (.cells #[.int .u32 x, .int .u32 y] 35))
  have R1 := Lib.hid (R0.out.alloc (.cells #[.int .u32 x, .int .u32 y] 35))
  have B1 := Lib.hid (B0.out.alloc B0.out.size (.cells #[.int .u32 x, .int .u32 y] 35))
  clear P0 R0 B0
  obtain ⟨k0, k1, k2, k3, k4, k5, k6, k7⟩ := P1.out
  obtain ⟨m0, m1, m2, m3, m4, m5, m6, m7⟩ := R1.out
  go_wp2_with fail
  refine (q1 _).mono ?_
  rintro e w3 ⟨rfl, hb⟩
  have P2 := Lib.hid (P1.out.keep hb)
  have R2 := Lib.hid (R1.out.keep hb)
  have B2 := Lib.hid (B1.out.trans (hb.mono B1.out.size))
  clear hb
  clear k0 k1 k2 k3 k4 k5 k6 k7
  clear m0 m1 m2 m3 m4 m5 m6 m7
  obtain ⟨k0, k1, k2, k3, k4, k5, k6, k7⟩ := P2.out
  obtain ⟨m0, m1, m2, m3, m4, m5, m6, m7⟩ := R2.out
  go_wp2_with fail
  refine (q2 _).mono ?_
  rintro e w4 ⟨rfl, hb⟩
  have P3 := Lib.hid (P2.out.keep hb)
  have R3 := Lib.hid (R2.out.keep hb)
  have B3 := Lib.hid (B2.out.trans (hb.mono B2.out.size))
  clear hb
  clear k0 k1 k2 k3 k4 k5 k6 k7
  clear m0 m1 m2 m3 m4 m5 m6 m7
  obtain ⟨k0, k1, k2, k3, k4, k5, k6, k7⟩ := P3.out
  obtain ⟨m0, m1, m2, m3, m4, m5, m6, m7⟩ := R3.out
  go_wp2_with fail
  go_ret
  exact ⟨rfl, B3.out⟩

theorem rclash_4 (W F T : Int) (rd wr : Bool) (K : Int) (lk : Bool) (G U : Int) (re we : Bool) (L : Int) (ke : Bool) (x y : Int) (m : Bool) (w : World)
    (q0 : ∀ w, Calls Tryz.prog 85 #[.agg #[.int .u32 F, .int .u32 T], .agg #[.int .u32 G, .int .u32 U]] w fun e w' => e = .returned (.tuple #[.agg #[.int .u32 x, .int .u32 y], .bool m]) ∧ Below w.heap.size w w') (q1 : ∀ w, Calls Tryz.prog 50 #[reg true W F T rd wr K lk] w fun e w' => e = .returned (.bool true) ∧ Below w.heap.size w w') (q2 : ∀ w, Calls Tryz.prog 50 #[reg true W G U re we L ke] w fun e w' => e = .returned (.bool true) ∧ Below w.heap.size w w') :
    Calls Tryz.prog 51 #[reg true W F T rd wr K lk, reg true W G U re we L ke] w fun e w' => e = .returned (.bool false) ∧ Below w.heap.size w w' := by
  go_enter Tryz.func51, Tryz.ntmps51
  go_wp2_with fail
  refine (q0 _).mono ?_
  rintro e w1 ⟨rfl, hb⟩
  have P0 := Lib.hid (((eight_new w true W F T rd wr K lk 37).alloc _).keep hb)
  have R0 := Lib.hid ((show Eight _ (w.heap.size + 1) true W G U re we L ke by have := eight_new (w.alloc (.cells #[.bool true, .int .i64 W, .int .u32 F, .int .u32 T, .bool rd, .bool wr, .int .i64 K, .bool lk] 37)) true W G U re we L ke 37; simpa using this).keep hb)
  have B0 := Lib.hid ((((Below.refl w.heap.size w).alloc (Nat.le_refl _) _).alloc (by simp) _).trans (hb.mono (by simp; omega)))
  clear hb
  have T1 := Lib.hid (Reach.two_new w1 x y 35)
  have P1 := Lib.hid (P0.out.alloc (.cells #[.int .u32 x, .int .u32 y] 35))
  have R1 := Lib.hid (R0.out.alloc (.cells #[.int .u32 x, .int .u32 y] 35))
  have B1 := Lib.hid (B0.out.alloc B0.out.size (.cells #[.int .u32 x, .int .u32 y] 35))
  clear P0 R0 B0
  obtain ⟨k0, k1, k2, k3, k4, k5, k6, k7⟩ := P1.out
  obtain ⟨m0, m1, m2, m3, m4, m5, m6, m7⟩ := R1.out
  go_wp2_with fail
  refine (q1 _).mono ?_
  rintro e w3 ⟨rfl, hb⟩
  have P2 := Lib.hid (P1.out.keep hb)
  have R2 := Lib.hid (R1.out.keep hb)
  have B2 := Lib.hid (B1.out.trans (hb.mono B1.out.size))
  clear hb
  clear k0 k1 k2 k3 k4 k5 k6 k7
  clear m0 m1 m2 m3 m4 m5 m6 m7
  obtain ⟨k0, k1, k2, k3, k4, k5, k6, k7⟩ := P2.out
  obtain ⟨m0, m1, m2, m3, m4, m5, m6, m7⟩ := R2.out
  go_wp2_with fail
  refine (q2 _).mono ?_
  rintro e w4 ⟨rfl, hb⟩
  have P3 := Lib.hid (P2.out.keep hb)
  have R3 := Lib.hid (R2.out.keep hb)
  have B3 := Lib.hid (B2.out.trans (hb.mono B2.out.size))
  clear hb
  clear k0 k1 k2 k3 k4 k5 k6 k7
  clear m0 m1 m2 m3 m4 m5 m6 m7
  obtain ⟨k0, k1, k2, k3, k4, k5, k6, k7⟩ := P3.out
  obtain ⟨m0, m1, m2, m3, m4, m5, m6, m7⟩ := R3.out
  go_wp2_with fail
  go_ret
  exact ⟨rfl, B3.out⟩

theorem rclash_5 (W F T : Int) (rd wr : Bool) (K : Int) (lk : Bool) (V G U : Int) (re we : Bool) (L : Int) (ke : Bool) (x y : Int) (m : Bool) (w : World)
    (q0 : ∀ w, Calls Tryz.prog 85 #[.agg #[.int .u32 F, .int .u32 T], .agg #[.int .u32 G, .int .u32 U]] w fun e w' => e = .returned (.tuple #[.agg #[.int .u32 x, .int .u32 y], .bool m]) ∧ Below w.heap.size w w') (q1 : ∀ w, Calls Tryz.prog 50 #[reg true W F T rd wr K lk] w fun e w' => e = .returned (.bool true) ∧ Below w.heap.size w w') (q2 : ∀ w, Calls Tryz.prog 50 #[reg true V G U re we L ke] w fun e w' => e = .returned (.bool true) ∧ Below w.heap.size w w') (h : ¬ W = V) :
    Calls Tryz.prog 51 #[reg true W F T rd wr K lk, reg true V G U re we L ke] w fun e w' => e = .returned (.bool m) ∧ Below w.heap.size w w' := by
  go_enter Tryz.func51, Tryz.ntmps51
  go_wp2_with fail
  refine (q0 _).mono ?_
  rintro e w1 ⟨rfl, hb⟩
  have P0 := Lib.hid (((eight_new w true W F T rd wr K lk 37).alloc _).keep hb)
  have R0 := Lib.hid ((show Eight _ (w.heap.size + 1) true V G U re we L ke by have := eight_new (w.alloc (.cells #[.bool true, .int .i64 W, .int .u32 F, .int .u32 T, .bool rd, .bool wr, .int .i64 K, .bool lk] 37)) true V G U re we L ke 37; simpa using this).keep hb)
  have B0 := Lib.hid ((((Below.refl w.heap.size w).alloc (Nat.le_refl _) _).alloc (by simp) _).trans (hb.mono (by simp; omega)))
  clear hb
  have T1 := Lib.hid (Reach.two_new w1 x y 35)
  have P1 := Lib.hid (P0.out.alloc (.cells #[.int .u32 x, .int .u32 y] 35))
  have R1 := Lib.hid (R0.out.alloc (.cells #[.int .u32 x, .int .u32 y] 35))
  have B1 := Lib.hid (B0.out.alloc B0.out.size (.cells #[.int .u32 x, .int .u32 y] 35))
  clear P0 R0 B0
  obtain ⟨k0, k1, k2, k3, k4, k5, k6, k7⟩ := P1.out
  obtain ⟨m0, m1, m2, m3, m4, m5, m6, m7⟩ := R1.out
  go_wp2_with fail
  refine (q1 _).mono ?_
  rintro e w3 ⟨rfl, hb⟩
  have P2 := Lib.hid (P1.out.keep hb)
  have R2 := Lib.hid (R1.out.keep hb)
  have B2 := Lib.hid (B1.out.trans (hb.mono B1.out.size))
  clear hb
  clear k0 k1 k2 k3 k4 k5 k6 k7
  clear m0 m1 m2 m3 m4 m5 m6 m7
  obtain ⟨k0, k1, k2, k3, k4, k5, k6, k7⟩ := P2.out
  obtain ⟨m0, m1, m2, m3, m4, m5, m6, m7⟩ := R2.out
  go_wp2_with fail
  refine (q2 _).mono ?_
  rintro e w4 ⟨rfl, hb⟩
  have P3 := Lib.hid (P2.out.keep hb)
  have R3 := Lib.hid (R2.out.keep hb)
  have B3 := Lib.hid (B2.out.trans (hb.mono B2.out.size))
  clear hb
  clear k0 k1 k2 k3 k4 k5 k6 k7
  clear m0 m1 m2 m3 m4 m5 m6 m7
  obtain ⟨k0, k1, k2, k3, k4, k5, k6, k7⟩ := P3.out
  obtain ⟨m0, m1, m2, m3, m4, m5, m6, m7⟩ := R3.out
  go_wp2_with fail
  go_ret
  exact ⟨ret_bool (by simp [h]), B3.out⟩

theorem rClash_any (o : Bool) (W F T : Int) (rd wr : Bool) (K : Int) (lk : Bool) (p : Bool) (V G U : Int) (re we : Bool) (L : Int) (ke : Bool) (b : Bool) (w : World) (hb : clashV o W F T K p V G U L = b) :
    Calls Tryz.prog 51 #[reg o W F T rd wr K lk, reg p V G U re we L ke] w fun e w' => e = .returned (.bool b) ∧ Below w.heap.size w w' := by
  subst hb
  unfold clashV
  cases hr : regB o W F T rd wr K lk
  · have e : standB o W F T K = false := by rw [← reg_and_on (rd := rd) (wr := wr) (lk := lk), hr]; rfl
    rw [e]
    exact rclash_0 o W F T rd wr K lk p V G U re we L ke _ _ _ w (fun w => Reach.rMeet_val F T G U _ _ _ w rfl rfl rfl) (fun w => rRight_any o W F T rd wr K lk _ w hr)
  cases hs : regB p V G U re we L ke
  · have e : standB p V G U L = false := by rw [← reg_and_on (rd := re) (wr := we) (lk := ke), hs]; rfl
    rw [e, Bool.and_false]
    exact rclash_1 o W F T rd wr K lk p V G U re we L ke _ _ _ w (fun w => Reach.rMeet_val F T G U _ _ _ w rfl rfl rfl) (fun w => rRight_any o W F T rd wr K lk _ w hr) (fun w => rRight_any p V G U re we L ke _ w hs)
  cases o
  · exact rclash_2 W F T rd wr K lk p V G U re we L ke _ _ _ w (fun w => Reach.rMeet_val F T G U _ _ _ w rfl rfl rfl) (fun w => rRight_any false W F T rd wr K lk _ w hr) (fun w => rRight_any p V G U re we L ke _ w hs)
  have er : standB true W F T K = true := by rw [← reg_and_on (rd := rd) (wr := wr) (lk := lk), hr]; rfl
  cases p
  · rw [stand_off, Bool.and_false]
    exact rclash_3 W F T rd wr K lk V G U re we L ke _ _ _ w (fun w => Reach.rMeet_val F T G U _ _ _ w rfl rfl rfl) (fun w => rRight_any true W F T rd wr K lk _ w hr) (fun w => rRight_any false V G U re we L ke _ w hs)
  have es : standB true V G U L = true := by rw [← reg_and_on (rd := re) (wr := we) (lk := ke), hs]; rfl
  rw [er, es]
  by_cases h : W = V
  · subst h
    rw [decide_eq_false (by simp)]
    exact rclash_4 W F T rd wr K lk G U re we L ke _ _ _ w (fun w => Reach.rMeet_val F T G U _ _ _ w rfl rfl rfl) (fun w => rRight_any true W F T rd wr K lk _ w hr) (fun w => rRight_any true W G U re we L ke _ w hs)
  · rw [decide_eq_true h]
    simpa using rclash_5 W F T rd wr K lk V G U re we L ke _ _ _ w (fun w => Reach.rMeet_val F T G U _ _ _ w rfl rfl rfl) (fun w => rRight_any true W F T rd wr K lk _ w hr) (fun w => rRight_any true V G U re we L ke _ w hs) h

end Go.Proofs.YtmkponhhinjpkaaGreat.Region
