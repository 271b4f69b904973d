/- Put together: Ha, Hb, Hc, Hd, He. -/
import Derived.Test.YtmkponhhinjpkaaAc
import Derived.Test.YtmkponhhinjpkaaRt
/- Plain: regions as the model holds them, what is asked of them, as truth values; a region in a block. -/
namespace Go.Proofs.Ytmkponhhinjpkaa.Region
open Go.RowKit Go.Proofs.Ytmkponhhinjpkaa.Access
set_option linter.unusedVariables false

/-- A region as the model holds it: its eight parts. -/
abbrev reg (o : Bool) (W F T : Int) (rd wr : Bool) (K : Int) (lk : Bool) : Value := .agg #[.bool o, .int .i64 W, .int .u32 F, .int .u32 T, .bool rd, .bool wr, .int .i64 K, .bool lk]
def rankB (K : Int) : Bool := decide (0 ≤ K ∧ K ≤ 255)
/-- Right and On. -/
def standB (o : Bool) (W F T K : Int) : Bool := o && wdB W && Reach.rightB F T && rankB K
/-- None: a zero one. -/
def zeroB (o : Bool) (W F T : Int) (rd wr : Bool) (K : Int) (lk : Bool) : Bool := !o && decide (W = 0) && decide (F = 0) && decide (T = 0) && !rd && !wr && decide (K = 0) && !lk
def regB (o : Bool) (W F T : Int) (rd wr : Bool) (K : Int) (lk : Bool) : Bool := zeroB o W F T rd wr K lk || standB o W F T K
/-- Has it an access? -/
def hasV (o : Bool) (W F T K W2 : Int) (r2 : Bool) (A S D : Int) : Bool := Access.rightB W2 r2 A S D && standB o W F T K && decide (W2 = W) && Reach.inB A (A + S - 1) F T
def letsV (o : Bool) (W F T : Int) (rd wr : Bool) (K W2 : Int) (r2 : Bool) (A S D : Int) : Bool := hasV o W F T K W2 r2 A S D && (if r2 then wr else rd)
def clashV (o : Bool) (W F T K : Int) (p : Bool) (V G U L : Int) : Bool := standB o W F T K && standB p V G U L && decide (W ≠ V) && Reach.meetB F T G U
def aboveV (o : Bool) (W F T K : Int) (p : Bool) (V G U L : Int) : Bool := standB o W F T K && standB p V G U L && decide (L < K)

theorem zero_off {o : Bool} {W F T : Int} {rd wr : Bool} {K : Int} {lk : Bool} (h : o = true) : zeroB o W F T rd wr K lk = false := by subst h; rfl
theorem stand_on {o : Bool} {W F T K : Int} (h : standB o W F T K = true) : o = true := by
  unfold standB at h; simp only [Bool.and_eq_true] at h; exact h.1.1.1
theorem stand_off {W F T K : Int} : standB false W F T K = false := rfl
theorem reg_on {W F T : Int} {rd wr : Bool} {K : Int} {lk : Bool} : regB true W F T rd wr K lk = standB true W F T K := rfl
theorem reg_off {W F T : Int} {rd wr : Bool} {K : Int} {lk : Bool} : regB false W F T rd wr K lk = zeroB false W F T rd wr K lk := by unfold regB; rw [stand_off, Bool.or_false]
/-- Right, and On, is what stands. -/
theorem reg_and_on {o : Bool} {W F T : Int} {rd wr : Bool} {K : Int} {lk : Bool} : (regB o W F T rd wr K lk && o) = standB o W F T K := by
  cases o
  · simp [stand_off]
  · rw [reg_on]; simp

/-- A region in a block. -/
structure Eight (w : World) (b : Nat) (o : Bool) (W F T : Int) (rd wr : Bool) (K : Int) (lk : Bool) : Prop where
  c0 : w.cell? ⟨b, 0, none⟩ = some (.bool o)
  c1 : w.cell? ⟨b, 1, none⟩ = some (.int .i64 W)
  c2 : w.cell? ⟨b, 2, none⟩ = some (.int .u32 F)
  c3 : w.cell? ⟨b, 3, none⟩ = some (.int .u32 T)
  c4 : w.cell? ⟨b, 4, none⟩ = some (.bool rd)
  c5 : w.cell? ⟨b, 5, none⟩ = some (.bool wr)
  c6 : w.cell? ⟨b, 6, none⟩ = some (.int .i64 K)
  c7 : w.cell? ⟨b, 7, none⟩ = some (.bool lk)
theorem Eight.keep {w w' : World} {b : Nat} {o : Bool} {W F T : Int} {rd wr : Bool} {K : Int} {lk : Bool} (h : Eight w b o W F T rd wr K lk) (hb : Below w.heap.size w w') : Eight w' b o W F T rd wr K lk :=
  ⟨cell_keep hb h.c0, cell_keep hb h.c1, cell_keep hb h.c2, cell_keep hb h.c3, cell_keep hb h.c4, cell_keep hb h.c5, cell_keep hb h.c6, cell_keep hb h.c7⟩
theorem Eight.alloc {w : World} {b : Nat} {o : Bool} {W F T : Int} {rd wr : Bool} {K : Int} {lk : Bool} (h : Eight w b o W F T rd wr K lk) (ob : Obj) : Eight (w.alloc ob) b o W F T rd wr K lk := h.keep ((Below.refl _ _).alloc (Nat.le_refl _) ob)
theorem eight_new (w : World) (o : Bool) (W F T : Int) (rd wr : Bool) (K : Int) (lk : Bool) (t : TypeId) : Eight (w.alloc (.cells #[.bool o, .int .i64 W, .int .u32 F, .int .u32 T, .bool rd, .bool wr, .int .i64 K, .bool lk] t)) w.heap.size o W F T rd wr K lk :=
  ⟨World.cell?_alloc_at _ _ _ 0 rfl, World.cell?_alloc_at _ _ _ 1 rfl, World.cell?_alloc_at _ _ _ 2 rfl, World.cell?_alloc_at _ _ _ 3 rfl, World.cell?_alloc_at _ _ _ 4 rfl, World.cell?_alloc_at _ _ _ 5 rfl, World.cell?_alloc_at _ _ _ 6 rfl, World.cell?_alloc_at _ _ _ 7 rfl⟩
end Go.Proofs.Ytmkponhhinjpkaa.Region
/- Contracts: what is asked of a region; one held against a zero one, part by part. -/
namespace Go.Proofs.Ytmkponhhinjpkaa.Region
open Go.RowKit Go.Proofs.Ytmkponhhinjpkaa.Access
set_option linter.unusedVariables false

theorem on_any (o : Bool) (W F T : Int) (rd wr : Bool) (K : Int) (lk : Bool) (w : World) :
    Calls Try.prog 53 #[reg o W F T rd wr K lk] w fun e w' => e = .returned (.bool o) ∧ Below w.heap.size w w' := by
  go_enter Try.func53, Try.ntmps53
  go_wp2
  go_ret
  exact ⟨rfl, (Below.refl _ _).alloc (Nat.le_refl _) _⟩
theorem ofWorld_any (o : Bool) (W F T : Int) (rd wr : Bool) (K : Int) (lk : Bool) (b : Bool) (w : World) (hb : wdB W = b) :
    Calls Try.prog 54 #[reg o W F T rd wr K lk] w fun e w' => e = .returned (.bool b) ∧ Below w.heap.size w w' := by
  subst hb
  by_cases h : 0 ≤ W
  · have e : wdB W = decide (W < 8) := by unfold wdB; simp [h]
    rw [e]
    go_enter Try.func54, Try.ntmps54
    go_wp2
    go_ret
    exact ⟨rfl, (Below.refl _ _).alloc (Nat.le_refl _) _⟩
  · have e : wdB W = false := by unfold wdB; exact decide_eq_false (by omega)
    rw [e]
    go_enter Try.func54, Try.ntmps54
    go_wp2
    go_ret
    exact ⟨rfl, (Below.refl _ _).alloc (Nat.le_refl _) _⟩
theorem ranked_any (o : Bool) (W F T : Int) (rd wr : Bool) (K : Int) (lk : Bool) (b : Bool) (w : World) (hb : rankB K = b) :
    Calls Try.prog 56 #[reg o W F T rd wr K lk] w fun e w' => e = .returned (.bool b) ∧ Below w.heap.size w w' := by
  subst hb
  by_cases h : 0 ≤ K
  · have e : rankB K = decide (K ≤ 255) := by unfold rankB; simp [h]
    rw [e]
    go_enter Try.func56, Try.ntmps56
    go_wp2
    go_ret
    exact ⟨rfl, (Below.refl _ _).alloc (Nat.le_refl _) _⟩
  · have e : rankB K = false := by unfold rankB; exact decide_eq_false (by omega)
    rw [e]
    go_enter Try.func56, Try.ntmps56
    go_wp2
    go_ret
    exact ⟨rfl, (Below.refl _ _).alloc (Nat.le_refl _) _⟩
theorem reaches_any (o : Bool) (W F T : Int) (rd wr : Bool) (K : Int) (lk : Bool) (b : Bool) (w : World) (hb : Reach.rightB F T = b) :
    Calls Try.prog 55 #[reg o W F T rd wr K lk] w fun e w' => e = .returned (.bool b) ∧ Below w.heap.size w w' := by
  have R := fun w => Reach.Right_val F T b w hb
  clear hb
  go_enter Try.func55, Try.ntmps55
  go_wp2_with fail
  refine (R _).mono ?_
  rintro e w1 ⟨rfl, hb⟩
  have Hb := Lib.hid (((Below.refl w.heap.size w).alloc (Nat.le_refl _) _).trans (hb.mono (by simp)))
  clear hb
  go_wp2_with fail
  go_ret
  exact ⟨rfl, Hb.out⟩
theorem open_any (o : Bool) (W F T : Int) (rd wr : Bool) (K : Int) (lk : Bool) (x b : Bool) (w : World) (hb : (if x then wr else rd) = b) :
    Calls Try.prog 28 #[reg o W F T rd wr K lk, .bool x] w fun e w' => e = .returned (.bool b) ∧ Below w.heap.size w w' := by
  subst hb
  cases x
  · go_enter Try.func28, Try.ntmps28
    go_wp2
    go_ret
    exact ⟨rfl, (Below.refl _ _).alloc (Nat.le_refl _) _⟩
  · go_enter Try.func28, Try.ntmps28
    go_wp2
    go_ret
    exact ⟨rfl, (Below.refl _ _).alloc (Nat.le_refl _) _⟩

theorem none_0 (W : Int) (F : Int) (T : Int) (rd : Bool) (wr : Bool) (K : Int) (lk : Bool)  (w : World) :
    Calls Try.prog 59 #[reg true W F T rd wr K lk] w fun e w' => e = .returned (.bool false) ∧ Below w.heap.size w w' := by
  go_enter Try.func59, Try.ntmps59
  go_wp2
  go_ret
  exact ⟨rfl, (Below.refl _ _).alloc (Nat.le_refl _) _⟩
theorem none_1 (W : Int) (F : Int) (T : Int) (rd : Bool) (wr : Bool) (K : Int) (lk : Bool) (h : ¬ W = 0) (w : World) :
    Calls Try.prog 59 #[reg false W F T rd wr K lk] w fun e w' => e = .returned (.bool false) ∧ Below w.heap.size w w' := by
  go_enter Try.func59, Try.ntmps59
  go_wp2
  go_ret
  exact ⟨rfl, (Below.refl _ _).alloc (Nat.le_refl _) _⟩
theorem none_2 (F : Int) (T : Int) (rd : Bool) (wr : Bool) (K : Int) (lk : Bool) (h : ¬ F = 0) (w : World) :
    Calls Try.prog 59 #[reg false 0 F T rd wr K lk] w fun e w' => e = .returned (.bool false) ∧ Below w.heap.size w w' := by
  go_enter Try.func59, Try.ntmps59
  go_wp2
  go_ret
  exact ⟨rfl, (Below.refl _ _).alloc (Nat.le_refl _) _⟩
theorem none_3 (T : Int) (rd : Bool) (wr : Bool) (K : Int) (lk : Bool) (h : ¬ T = 0) (w : World) :
    Calls Try.prog 59 #[reg false 0 0 T rd wr K lk] w fun e w' => e = .returned (.bool false) ∧ Below w.heap.size w w' := by
  go_enter Try.func59, Try.ntmps59
  go_wp2
  go_ret
  exact ⟨rfl, (Below.refl _ _).alloc (Nat.le_refl _) _⟩
theorem none_4 (wr : Bool) (K : Int) (lk : Bool)  (w : World) :
    Calls Try.prog 59 #[reg false 0 0 0 true wr K lk] w fun e w' => e = .returned (.bool false) ∧ Below w.heap.size w w' := by
  go_enter Try.func59, Try.ntmps59
  go_wp2
  go_ret
  exact ⟨rfl, (Below.refl _ _).alloc (Nat.le_refl _) _⟩
theorem none_5 (K : Int) (lk : Bool)  (w : World) :
    Calls Try.prog 59 #[reg false 0 0 0 false true K lk] w fun e w' => e = .returned (.bool false) ∧ Below w.heap.size w w' := by
  go_enter Try.func59, Try.ntmps59
  go_wp2
  go_ret
  exact ⟨rfl, (Below.refl _ _).alloc (Nat.le_refl _) _⟩
theorem none_6 (K : Int) (lk : Bool) (h : ¬ K = 0) (w : World) :
    Calls Try.prog 59 #[reg false 0 0 0 false false K lk] w fun e w' => e = .returned (.bool false) ∧ Below w.heap.size w w' := by
  go_enter Try.func59, Try.ntmps59
  go_wp2
  go_ret
  exact ⟨rfl, (Below.refl _ _).alloc (Nat.le_refl _) _⟩
theorem none_7   (w : World) :
    Calls Try.prog 59 #[reg false 0 0 0 false false 0 true] w fun e w' => e = .returned (.bool false) ∧ Below w.heap.size w w' := by
  go_enter Try.func59, Try.ntmps59
  go_wp2
  go_ret
  exact ⟨rfl, (Below.refl _ _).alloc (Nat.le_refl _) _⟩
theorem none_8   (w : World) :
    Calls Try.prog 59 #[reg false 0 0 0 false false 0 false] w fun e w' => e = .returned (.bool true) ∧ Below w.heap.size w w' := by
  go_enter Try.func59, Try.ntmps59
  go_wp2
  go_ret
  exact ⟨rfl, (Below.refl _ _).alloc (Nat.le_refl _) _⟩
theorem none_any (o : Bool) (W F T : Int) (rd wr : Bool) (K : Int) (lk : Bool) (b : Bool) (w : World) (hb : zeroB o W F T rd wr K lk = b) :
    Calls Try.prog 59 #[reg o W F T rd wr K lk] w fun e w' => e = .returned (.bool b) ∧ Below w.heap.size w w' := by
  subst hb
  cases o
  case true => simpa [zeroB] using none_0 W F T rd wr K lk w
  by_cases hW : ¬ W = 0
  · simpa [zeroB, hW] using none_1 W F T rd wr K lk hW w
  obtain rfl := Decidable.not_not.1 hW
  clear hW
  by_cases hF : ¬ F = 0
  · simpa [zeroB, hF] using none_2 F T rd wr K lk hF w
  obtain rfl := Decidable.not_not.1 hF
  clear hF
  by_cases hT : ¬ T = 0
  · simpa [zeroB, hT] using none_3 T rd wr K lk hT w
  obtain rfl := Decidable.not_not.1 hT
  clear hT
  cases rd
  case true => simpa [zeroB] using none_4 wr K lk w
  cases wr
  case true => simpa [zeroB] using none_5 K lk w
  by_cases hK : ¬ K = 0
  · simpa [zeroB, hK] using none_6 K lk hK w
  obtain rfl := Decidable.not_not.1 hK
  clear hK
  cases lk
  case true => simpa [zeroB] using none_7  w
  simpa [zeroB] using none_8 w

end Go.Proofs.Ytmkponhhinjpkaa.Region
/- Contracts: whether a region stands, is right, both ways. -/
namespace Go.Proofs.Ytmkponhhinjpkaa.Region
open Go.RowKit Go.Proofs.Ytmkponhhinjpkaa.Access
set_option linter.unusedVariables false

/-- The row of what must hold. -/
structure Holds (w : World) (g : Nat) (v : Value) : Prop where
  c0 : w.cell? ⟨g, 0, none⟩ = some (.func (.func 53) #[v] #[])
  c1 : w.cell? ⟨g, 1, none⟩ = some (.func (.func 54) #[v] #[])
  c2 : w.cell? ⟨g, 2, none⟩ = some (.func (.func 55) #[v] #[])
  c3 : w.cell? ⟨g, 3, none⟩ = some (.func (.func 56) #[v] #[])
theorem Holds.keep {w w' : World} {g : Nat} {v : Value} (h : Holds w g v) (hb : Below w.heap.size w w') : Holds w' g v := ⟨cell_keep hb h.c0, cell_keep hb h.c1, cell_keep hb h.c2, cell_keep hb h.c3⟩
theorem holds_new (w : World) (v : Value) (o : Obj) (g : Nat) (hg : w.heap.size + 1 = g) (W0 : World)
    (hW : W0 = (w.alloc o).alloc (.cells #[.func (.func 53) #[v] #[], .func (.func 54) #[v] #[], .func (.func 55) #[v] #[], .func (.func 56) #[v] #[]] 26)) :
    Holds W0 g v ∧ Below w.heap.size w W0 := by
  subst hW
  have e : (w.alloc o).heap.size = g := by simpa using hg
  subst e
  exact ⟨⟨World.cell?_alloc_at _ _ _ 0 rfl, World.cell?_alloc_at _ _ _ 1 rfl, World.cell?_alloc_at _ _ _ 2 rfl, World.cell?_alloc_at _ _ _ 3 rfl⟩, ((Below.refl _ _).alloc (Nat.le_refl _) _).alloc (by simp) _⟩

theorem stands_1 (o : Bool) (W F T : Int) (rd wr : Bool) (K : Int) (lk : Bool) (w : World)
    (q0 : ∀ w, Calls Try.prog 53 #[reg o W F T rd wr K lk] w fun e w' => e = .returned (.bool false) ∧ Below w.heap.size w w') :
    Calls Try.prog 41 #[reg o W F T rd wr K lk] w fun e w' => e = .returned (.bool false) ∧ Below w.heap.size w w' := by
  have hmf : ∀ (fn : Fn) (first cap : Array Value) (w : World), (Instr.makeFunc fn first cap).run Try.prog w = .ok (.func fn first cap) w := fun _ _ _ _ => rfl
  go_enter Try.func41, Try.ntmps41
  go_wp2_with fail
  obtain ⟨v, hv⟩ : ∃ v, v = reg o W F T rd wr K lk := ⟨_, rfl⟩
  obtain ⟨W0, hW0⟩ : ∃ X : World, X = (w.alloc (.cells #[.bool o, .int .i64 W, .int .u32 F, .int .u32 T, .bool rd, .bool wr, .int .i64 K, .bool lk] 64)).alloc (.cells #[.func (.func 53) #[v] #[], .func (.func 54) #[v] #[], .func (.func 55) #[v] #[], .func (.func 56) #[v] #[]] 26) := ⟨_, rfl⟩
  have hA := holds_new w v _ _ rfl W0 hW0
  subst hv
  rw [← hW0]
  obtain ⟨g, hg⟩ : ∃ g, w.heap.size + 1 = g := ⟨_, rfl⟩
  rw [hg] at hA
  rw [hg]
  have HA := Lib.hid hA.1
  have HB := Lib.hid hA.2
  clear hA hg hW0
  refine wp_loop_rounds 5 ?_
  rw [rounds_succ]
  have d0 := HA.out.c0
  go_wp2_with fail
  refine (q0 _).mono ?_
  rintro e w1 ⟨rfl, hb⟩
  have HA1 := Lib.hid (HA.out.keep hb)
  have HB1 := Lib.hid (HB.out.trans (hb.mono HB.out.size))
  clear hb d0
  go_wp2_with fail
  go_ret
  exact ⟨rfl, HB1.out⟩

theorem stands_2 (o : Bool) (W F T : Int) (rd wr : Bool) (K : Int) (lk : Bool) (w : World)
    (q0 : ∀ w, Calls Try.prog 53 #[reg o W F T rd wr K lk] w fun e w' => e = .returned (.bool true) ∧ Below w.heap.size w w')
    (q1 : ∀ w, Calls Try.prog 54 #[reg o W F T rd wr K lk] w fun e w' => e = .returned (.bool false) ∧ Below w.heap.size w w') :
    Calls Try.prog 41 #[reg o W F T rd wr K lk] w fun e w' => e = .returned (.bool false) ∧ Below w.heap.size w w' := by
  have hmf : ∀ (fn : Fn) (first cap : Array Value) (w : World), (Instr.makeFunc fn first cap).run Try.prog w = .ok (.func fn first cap) w := fun _ _ _ _ => rfl
  go_enter Try.func41, Try.ntmps41
  go_wp2_with fail
  obtain ⟨v, hv⟩ : ∃ v, v = reg o W F T rd wr K lk := ⟨_, rfl⟩
  obtain ⟨W0, hW0⟩ : ∃ X : World, X = (w.alloc (.cells #[.bool o, .int .i64 W, .int .u32 F, .int .u32 T, .bool rd, .bool wr, .int .i64 K, .bool lk] 64)).alloc (.cells #[.func (.func 53) #[v] #[], .func (.func 54) #[v] #[], .func (.func 55) #[v] #[], .func (.func 56) #[v] #[]] 26) := ⟨_, rfl⟩
  have hA := holds_new w v _ _ rfl W0 hW0
  subst hv
  rw [← hW0]
  obtain ⟨g, hg⟩ : ∃ g, w.heap.size + 1 = g := ⟨_, rfl⟩
  rw [hg] at hA
  rw [hg]
  have HA := Lib.hid hA.1
  have HB := Lib.hid hA.2
  clear hA hg hW0
  refine wp_loop_rounds 5 ?_
  rw [rounds_succ]
  have d0 := HA.out.c0
  go_wp2_with fail
  refine (q0 _).mono ?_
  rintro e w1 ⟨rfl, hb⟩
  have HA1 := Lib.hid (HA.out.keep hb)
  have HB1 := Lib.hid (HB.out.trans (hb.mono HB.out.size))
  clear hb d0
  go_wp2_with fail
  rw [rounds_succ]
  have d1 := HA1.out.c1
  go_wp2_with fail
  refine (q1 _).mono ?_
  rintro e w2 ⟨rfl, hb⟩
  have HA2 := Lib.hid (HA1.out.keep hb)
  have HB2 := Lib.hid (HB1.out.trans (hb.mono HB1.out.size))
  clear hb d1
  go_wp2_with fail
  go_ret
  exact ⟨rfl, HB2.out⟩

theorem stands_3 (o : Bool) (W F T : Int) (rd wr : Bool) (K : Int) (lk : Bool) (w : World)
    (q0 : ∀ w, Calls Try.prog 53 #[reg o W F T rd wr K lk] w fun e w' => e = .returned (.bool true) ∧ Below w.heap.size w w')
    (q1 : ∀ w, Calls Try.prog 54 #[reg o W F T rd wr K lk] w fun e w' => e = .returned (.bool true) ∧ Below w.heap.size w w')
    (q2 : ∀ w, Calls Try.prog 55 #[reg o W F T rd wr K lk] w fun e w' => e = .returned (.bool false) ∧ Below w.heap.size w w') :
    Calls Try.prog 41 #[reg o W F T rd wr K lk] w fun e w' => e = .returned (.bool false) ∧ Below w.heap.size w w' := by
  have hmf : ∀ (fn : Fn) (first cap : Array Value) (w : World), (Instr.makeFunc fn first cap).run Try.prog w = .ok (.func fn first cap) w := fun _ _ _ _ => rfl
  go_enter Try.func41, Try.ntmps41
  go_wp2_with fail
  obtain ⟨v, hv⟩ : ∃ v, v = reg o W F T rd wr K lk := ⟨_, rfl⟩
  obtain ⟨W0, hW0⟩ : ∃ X : World, X = (w.alloc (.cells #[.bool o, .int .i64 W, .int .u32 F, .int .u32 T, .bool rd, .bool wr, .int .i64 K, .bool lk] 64)).alloc (.cells #[.func (.func 53) #[v] #[], .func (.func 54) #[v] #[], .func (.func 55) #[v] #[], .func (.func 56) #[v] #[]] 26) := ⟨_, rfl⟩
  have hA := holds_new w v _ _ rfl W0 hW0
  subst hv
  rw [← hW0]
  obtain ⟨g, hg⟩ : ∃ g, w.heap.size + 1 = g := ⟨_, rfl⟩
  rw [hg] at hA
  rw [hg]
  have HA := Lib.hid hA.1
  have HB := Lib.hid hA.2
  clear hA hg hW0
  refine wp_loop_rounds 5 ?_
  rw [rounds_succ]
  have d0 := HA.out.c0
  go_wp2_with fail
  refine (q0 _).mono ?_
  rintro e w1 ⟨rfl, hb⟩
  have HA1 := Lib.hid (HA.out.keep hb)
  have HB1 := Lib.hid (HB.out.trans (hb.mono HB.out.size))
  clear hb d0
  go_wp2_with fail
  rw [rounds_succ]
  have d1 := HA1.out.c1
  go_wp2_with fail
  refine (q1 _).mono ?_
  rintro e w2 ⟨rfl, hb⟩
  have HA2 := Lib.hid (HA1.out.keep hb)
  have HB2 := Lib.hid (HB1.out.trans (hb.mono HB1.out.size))
  clear hb d1
  go_wp2_with fail
  rw [rounds_succ]
  have d2 := HA2.out.c2
  go_wp2_with fail
  refine (q2 _).mono ?_
  rintro e w3 ⟨rfl, hb⟩
  have HA3 := Lib.hid (HA2.out.keep hb)
  have HB3 := Lib.hid (HB2.out.trans (hb.mono HB2.out.size))
  clear hb d2
  go_wp2_with fail
  go_ret
  exact ⟨rfl, HB3.out⟩

theorem stands_4 (o : Bool) (W F T : Int) (rd wr : Bool) (K : Int) (lk : Bool) (w : World)
    (q0 : ∀ w, Calls Try.prog 53 #[reg o W F T rd wr K lk] w fun e w' => e = .returned (.bool true) ∧ Below w.heap.size w w')
    (q1 : ∀ w, Calls Try.prog 54 #[reg o W F T rd wr K lk] w fun e w' => e = .returned (.bool true) ∧ Below w.heap.size w w')
    (q2 : ∀ w, Calls Try.prog 55 #[reg o W F T rd wr K lk] w fun e w' => e = .returned (.bool true) ∧ Below w.heap.size w w')
    (q3 : ∀ w, Calls Try.prog 56 #[reg o W F T rd wr K lk] w fun e w' => e = .returned (.bool false) ∧ Below w.heap.size w w') :
    Calls Try.prog 41 #[reg o W F T rd wr K lk] w fun e w' => e = .returned (.bool false) ∧ Below w.heap.size w w' := by
  have hmf : ∀ (fn : Fn) (first cap : Array Value) (w : World), (Instr.makeFunc fn first cap).run Try.prog w = .ok (.func fn first cap) w := fun _ _ _ _ => rfl
  go_enter Try.func41, Try.ntmps41
  go_wp2_with fail
  obtain ⟨v, hv⟩ : ∃ v, v = reg o W F T rd wr K lk := ⟨_, rfl⟩
  obtain ⟨W0, hW0⟩ : ∃ X : World, X = (w.alloc (.cells #[.bool o, .int .i64 W, .int .u32 F, .int .u32 T, .bool rd, .bool wr, .int .i64 K, .bool lk] 64)).alloc (.cells #[.func (.func 53) #[v] #[], .func (.func 54) #[v] #[], .func (.func 55) #[v] #[], .func (.func 56) #[v] #[]] 26) := ⟨_, rfl⟩
  have hA := holds_new w v _ _ rfl W0 hW0
  subst hv
  rw [← hW0]
  obtain ⟨g, hg⟩ : ∃ g, w.heap.size + 1 = g := ⟨_, rfl⟩
  rw [hg] at hA
  rw [hg]
  have HA := Lib.hid hA.1
  have HB := Lib.hid hA.2
  clear hA hg hW0
  refine wp_loop_rounds 5 ?_
  rw [rounds_succ]
  have d0 := HA.out.c0
  go_wp2_with fail
  refine (q0 _).mono ?_
  rintro e w1 ⟨rfl, hb⟩
  have HA1 := Lib.hid (HA.out.keep hb)
  have HB1 := Lib.hid (HB.out.trans (hb.mono HB.out.size))
  clear hb d0
  go_wp2_with fail
  rw [rounds_succ]
  have d1 := HA1.out.c1
  go_wp2_with fail
  refine (q1 _).mono ?_
  rintro e w2 ⟨rfl, hb⟩
  have HA2 := Lib.hid (HA1.out.keep hb)
  have HB2 := Lib.hid (HB1.out.trans (hb.mono HB1.out.size))
  clear hb d1
  go_wp2_with fail
  rw [rounds_succ]
  have d2 := HA2.out.c2
  go_wp2_with fail
  refine (q2 _).mono ?_
  rintro e w3 ⟨rfl, hb⟩
  have HA3 := Lib.hid (HA2.out.keep hb)
  have HB3 := Lib.hid (HB2.out.trans (hb.mono HB2.out.size))
  clear hb d2
  go_wp2_with fail
  rw [rounds_succ]
  have d3 := HA3.out.c3
  go_wp2_with fail
  refine (q3 _).mono ?_
  rintro e w4 ⟨rfl, hb⟩
  have HA4 := Lib.hid (HA3.out.keep hb)
  have HB4 := Lib.hid (HB3.out.trans (hb.mono HB3.out.size))
  clear hb d3
  go_wp2_with fail
  go_ret
  exact ⟨rfl, HB4.out⟩

theorem stands_5 (o : Bool) (W F T : Int) (rd wr : Bool) (K : Int) (lk : Bool) (w : World)
    (q0 : ∀ w, Calls Try.prog 53 #[reg o W F T rd wr K lk] w fun e w' => e = .returned (.bool true) ∧ Below w.heap.size w w')
    (q1 : ∀ w, Calls Try.prog 54 #[reg o W F T rd wr K lk] w fun e w' => e = .returned (.bool true) ∧ Below w.heap.size w w')
    (q2 : ∀ w, Calls Try.prog 55 #[reg o W F T rd wr K lk] w fun e w' => e = .returned (.bool true) ∧ Below w.heap.size w w')
    (q3 : ∀ w, Calls Try.prog 56 #[reg o W F T rd wr K lk] w fun e w' => e = .returned (.bool true) ∧ Below w.heap.size w w') :
    Calls Try.prog 41 #[reg o W F T rd wr K lk] w fun e w' => e = .returned (.bool true) ∧ Below w.heap.size w w' := by
  have hmf : ∀ (fn : Fn) (first cap : Array Value) (w : World), (Instr.makeFunc fn first cap).run Try.prog w = .ok (.func fn first cap) w := fun _ _ _ _ => rfl
  go_enter Try.func41, Try.ntmps41
  go_wp2_with fail
  obtain ⟨v, hv⟩ : ∃ v, v = reg o W F T rd wr K lk := ⟨_, rfl⟩
  obtain ⟨W0, hW0⟩ : ∃ X : World, X = (w.alloc (.cells #[.bool o, .int .i64 W, .int .u32 F, .int .u32 T, .bool rd, .bool wr, .int .i64 K, .bool lk] 64)).alloc (.cells #[.func (.func 53) #[v] #[], .func (.func 54) #[v] #[], .func (.func 55) #[v] #[], .func (.func 56) #[v] #[]] 26) := ⟨_, rfl⟩
  have hA := holds_new w v _ _ rfl W0 hW0
  subst hv
  rw [← hW0]
  obtain ⟨g, hg⟩ : ∃ g, w.heap.size + 1 = g := ⟨_, rfl⟩
  rw [hg] at hA
  rw [hg]
  have HA := Lib.hid hA.1
  have HB := Lib.hid hA.2
  clear hA hg hW0
  refine wp_loop_rounds 5 ?_
  rw [rounds_succ]
  have d0 := HA.out.c0
  go_wp2_with fail
  refine (q0 _).mono ?_
  rintro e w1 ⟨rfl, hb⟩
  have HA1 := Lib.hid (HA.out.keep hb)
  have HB1 := Lib.hid (HB.out.trans (hb.mono HB.out.size))
  clear hb d0
  go_wp2_with fail
  rw [rounds_succ]
  have d1 := HA1.out.c1
  go_wp2_with fail
  refine (q1 _).mono ?_
  rintro e w2 ⟨rfl, hb⟩
  have HA2 := Lib.hid (HA1.out.keep hb)
  have HB2 := Lib.hid (HB1.out.trans (hb.mono HB1.out.size))
  clear hb d1
  go_wp2_with fail
  rw [rounds_succ]
  have d2 := HA2.out.c2
  go_wp2_with fail
  refine (q2 _).mono ?_
  rintro e w3 ⟨rfl, hb⟩
  have HA3 := Lib.hid (HA2.out.keep hb)
  have HB3 := Lib.hid (HB2.out.trans (hb.mono HB2.out.size))
  clear hb d2
  go_wp2_with fail
  rw [rounds_succ]
  have d3 := HA3.out.c3
  go_wp2_with fail
  refine (q3 _).mono ?_
  rintro e w4 ⟨rfl, hb⟩
  have HA4 := Lib.hid (HA3.out.keep hb)
  have HB4 := Lib.hid (HB3.out.trans (hb.mono HB3.out.size))
  clear hb d3
  go_wp2_with fail
  rw [rounds_succ]
  go_wp2_with fail
  go_ret
  exact ⟨rfl, HB4.out⟩

theorem stands_any (o : Bool) (W F T : Int) (rd wr : Bool) (K : Int) (lk : Bool) (b : Bool) (w : World) (hb : standB o W F T K = b) :
    Calls Try.prog 41 #[reg o W F T rd wr K lk] w fun e w' => e = .returned (.bool b) ∧ Below w.heap.size w w' := by
  subst hb
  unfold standB
  cases o
  · exact stands_1 false W F T rd wr K lk w (fun w => on_any false W F T rd wr K lk w)
  cases h2 : wdB W
  · exact stands_2 true W F T rd wr K lk w (fun w => on_any true W F T rd wr K lk w) (fun w => ofWorld_any true W F T rd wr K lk _ w h2)
  cases h3 : Reach.rightB F T
  · exact stands_3 true W F T rd wr K lk w (fun w => on_any true W F T rd wr K lk w) (fun w => ofWorld_any true W F T rd wr K lk _ w h2) (fun w => reaches_any true W F T rd wr K lk _ w h3)
  cases h4 : rankB K
  · exact stands_4 true W F T rd wr K lk w (fun w => on_any true W F T rd wr K lk w) (fun w => ofWorld_any true W F T rd wr K lk _ w h2) (fun w => reaches_any true W F T rd wr K lk _ w h3) (fun w => ranked_any true W F T rd wr K lk _ w h4)
  · exact stands_5 true W F T rd wr K lk w (fun w => on_any true W F T rd wr K lk w) (fun w => ofWorld_any true W F T rd wr K lk _ w h2) (fun w => reaches_any true W F T rd wr K lk _ w h3) (fun w => ranked_any true W F T rd wr K lk _ w h4)

theorem right_none (o : Bool) (W F T : Int) (rd wr : Bool) (K : Int) (lk : Bool) (w : World)
    (N : ∀ w, Calls Try.prog 59 #[reg o W F T rd wr K lk] w fun e w' => e = .returned (.bool true) ∧ Below w.heap.size w w') :
    Calls Try.prog 44 #[reg o W F T rd wr K lk] w fun e w' => e = .returned (.bool true) ∧ Below w.heap.size w w' := by
  go_enter Try.func44, Try.ntmps44
  go_wp2_with fail
  refine (N _).mono ?_
  rintro e w1 ⟨rfl, hb⟩
  have Hb := Lib.hid (((Below.refl w.heap.size w).alloc (Nat.le_refl _) _).trans (hb.mono (by simp)))
  clear hb
  go_wp2_with fail
  go_ret
  exact ⟨rfl, Hb.out⟩
theorem right_some (o : Bool) (W F T : Int) (rd wr : Bool) (K : Int) (lk : Bool) (b : Bool) (w : World)
    (N : ∀ w, Calls Try.prog 59 #[reg o W F T rd wr K lk] w fun e w' => e = .returned (.bool false) ∧ Below w.heap.size w w')
    (S : ∀ w, Calls Try.prog 41 #[reg o W F T rd wr K lk] w fun e w' => e = .returned (.bool b) ∧ Below w.heap.size w w') :
    Calls Try.prog 44 #[reg o W F T rd wr K lk] w fun e w' => e = .returned (.bool b) ∧ Below w.heap.size w w' := by
  go_enter Try.func44, Try.ntmps44
  go_wp2_with fail
  refine (N _).mono ?_
  rintro e w1 ⟨rfl, hb⟩
  obtain ⟨k0, k1, k2, k3, k4, k5, k6, k7⟩ := (eight_new w o W F T rd wr K lk _).keep hb
  have Hb := Lib.hid (((Below.refl w.heap.size w).alloc (Nat.le_refl _) _).trans (hb.mono (by simp)))
  clear hb
  go_wp2_with fail
  refine (S _).mono ?_
  rintro e w2 ⟨rfl, hb⟩
  clear k0 k1 k2 k3 k4 k5 k6 k7
  have Hb2 := Lib.hid (Hb.out.trans (hb.mono Hb.out.size))
  clear hb
  go_wp2_with fail
  go_ret
  exact ⟨rfl, Hb2.out⟩
theorem right_any (o : Bool) (W F T : Int) (rd wr : Bool) (K : Int) (lk : Bool) (b : Bool) (w : World) (hb : regB o W F T rd wr K lk = b) :
    Calls Try.prog 44 #[reg o W F T rd wr K lk] w fun e w' => e = .returned (.bool b) ∧ Below w.heap.size w w' := by
  subst hb
  unfold regB
  cases hz : zeroB o W F T rd wr K lk
  · exact right_some o W F T rd wr K lk _ w (fun w => none_any o W F T rd wr K lk _ w hz) (fun w => stands_any o W F T rd wr K lk _ w rfl)
  · exact right_none o W F T rd wr K lk w (fun w => none_any o W F T rd wr K lk _ w hz)
theorem Right_any (o : Bool) (W F T : Int) (rd wr : Bool) (K : Int) (lk : Bool) (b : Bool) (w : World) (hb : regB o W F T rd wr K lk = b) :
    Calls Try.prog 30 #[reg o W F T rd wr K lk] w fun e w' => e = .returned (.bool b) ∧ Below w.heap.size w w' := by
  have R := fun w => right_any o W F T rd wr K lk b w hb
  clear hb
  go_enter Try.func30, Try.ntmps30
  go_wp2_with fail
  refine (R _).mono ?_
  rintro e w1 ⟨rfl, hb⟩
  have Hb := Lib.hid (((Below.refl w.heap.size w).alloc (Nat.le_refl _) _).trans (hb.mono (by simp)))
  clear hb
  go_wp2_with fail
  go_ret
  exact ⟨rfl, Hb.out⟩

end Go.Proofs.Ytmkponhhinjpkaa.Region
/- Contracts: Has, Lets, Clash, Above, both ways. -/
namespace Go.Proofs.Ytmkponhhinjpkaa.Region
open Go.RowKit Go.Proofs.Ytmkponhhinjpkaa.Access
set_option linter.unusedVariables false

theorem has_0 (o : Bool) (W F T : Int) (rd wr : Bool) (K : Int) (lk : Bool) (W2 : Int) (r2 : Bool) (A S D : Int) (x y : Int) (w : World)
    (q0 : ∀ w, Calls Try.prog 40 #[acc W2 r2 A S D] w fun e w' => e = .returned (.tuple #[.agg #[.int .u32 x, .int .u32 y], .bool false]) ∧ Below w.heap.size w w') :
    Calls Try.prog 26 #[reg o W F T rd wr K lk, acc W2 r2 A S D] w fun e w' => e = .returned (.bool false) ∧ Below w.heap.size w w' := by
  go_enter Try.func26, Try.ntmps26
  go_wp2_with fail
  refine (q0 _).mono ?_
  rintro e w1 ⟨rfl, hb⟩
  have P0 := Lib.hid (((eight_new w o W F T rd wr K lk 64).alloc _).keep hb)
  have R0 := Lib.hid ((show Five _ (w.heap.size + 1) W2 r2 A S D by have := five_new (w.alloc (.cells #[.bool o, .int .i64 W, .int .u32 F, .int .u32 T, .bool rd, .bool wr, .int .i64 K, .bool lk] 64)) W2 r2 A S D 25; simpa using this).keep hb)
  have B0 := Lib.hid ((((Below.refl w.heap.size w).alloc (Nat.le_refl _) _).alloc (by simp) _).trans (hb.mono (by simp; omega)))
  clear hb
  have T1 := Lib.hid (Reach.two_new w1 x y 34)
  have P1 := Lib.hid (P0.out.alloc (.cells #[.int .u32 x, .int .u32 y] 34))
  have R1 := Lib.hid (R0.out.alloc (.cells #[.int .u32 x, .int .u32 y] 34))
  have B1 := Lib.hid (B0.out.alloc B0.out.size (.cells #[.int .u32 x, .int .u32 y] 34))
  clear P0 R0 B0
  obtain ⟨k0, k1, k2, k3, k4, k5, k6, k7⟩ := P1.out
  obtain ⟨m0, m1, m2, m3, m4⟩ := R1.out
  go_wp2_with fail
  go_ret
  exact ⟨rfl, B1.out⟩

theorem has_1 (o : Bool) (W F T : Int) (rd wr : Bool) (K : Int) (lk : Bool) (W2 : Int) (r2 : Bool) (A S D : Int) (x y : Int) (w : World)
    (q0 : ∀ w, Calls Try.prog 40 #[acc W2 r2 A S D] w fun e w' => e = .returned (.tuple #[.agg #[.int .u32 x, .int .u32 y], .bool true]) ∧ Below w.heap.size w w') (q1 : ∀ w, Calls Try.prog 41 #[reg o W F T rd wr K lk] w fun e w' => e = .returned (.bool false) ∧ Below w.heap.size w w') :
    Calls Try.prog 26 #[reg o W F T rd wr K lk, acc W2 r2 A S D] w fun e w' => e = .returned (.bool false) ∧ Below w.heap.size w w' := by
  go_enter Try.func26, Try.ntmps26
  go_wp2_with fail
  refine (q0 _).mono ?_
  rintro e w1 ⟨rfl, hb⟩
  have P0 := Lib.hid (((eight_new w o W F T rd wr K lk 64).alloc _).keep hb)
  have R0 := Lib.hid ((show Five _ (w.heap.size + 1) W2 r2 A S D by have := five_new (w.alloc (.cells #[.bool o, .int .i64 W, .int .u32 F, .int .u32 T, .bool rd, .bool wr, .int .i64 K, .bool lk] 64)) W2 r2 A S D 25; simpa using this).keep hb)
  have B0 := Lib.hid ((((Below.refl w.heap.size w).alloc (Nat.le_refl _) _).alloc (by simp) _).trans (hb.mono (by simp; omega)))
  clear hb
  have T1 := Lib.hid (Reach.two_new w1 x y 34)
  have P1 := Lib.hid (P0.out.alloc (.cells #[.int .u32 x, .int .u32 y] 34))
  have R1 := Lib.hid (R0.out.alloc (.cells #[.int .u32 x, .int .u32 y] 34))
  have B1 := Lib.hid (B0.out.alloc B0.out.size (.cells #[.int .u32 x, .int .u32 y] 34))
  clear P0 R0 B0
  obtain ⟨k0, k1, k2, k3, k4, k5, k6, k7⟩ := P1.out
  obtain ⟨m0, m1, m2, m3, m4⟩ := R1.out
  go_wp2_with fail
  refine (q1 _).mono ?_
  rintro e w3 ⟨rfl, hb⟩
  have P2 := Lib.hid (P1.out.keep hb)
  have R2 := Lib.hid (R1.out.keep hb)
  have T2 := Lib.hid (T1.out.keep hb)
  have B2 := Lib.hid (B1.out.trans (hb.mono B1.out.size))
  clear hb
  clear k0 k1 k2 k3 k4 k5 k6 k7
  clear m0 m1 m2 m3 m4
  obtain ⟨k0, k1, k2, k3, k4, k5, k6, k7⟩ := P2.out
  obtain ⟨m0, m1, m2, m3, m4⟩ := R2.out
  obtain ⟨n0, n1⟩ := T2.out
  go_wp2_with fail
  go_ret
  exact ⟨rfl, B2.out⟩

theorem has_2 (o : Bool) (W F T : Int) (rd wr : Bool) (K : Int) (lk : Bool) (W2 : Int) (r2 : Bool) (A S D : Int) (x y : Int) (w : World)
    (q0 : ∀ w, Calls Try.prog 40 #[acc W2 r2 A S D] w fun e w' => e = .returned (.tuple #[.agg #[.int .u32 x, .int .u32 y], .bool true]) ∧ Below w.heap.size w w') (q1 : ∀ w, Calls Try.prog 41 #[reg o W F T rd wr K lk] w fun e w' => e = .returned (.bool true) ∧ Below w.heap.size w w') (h : ¬ W2 = W) :
    Calls Try.prog 26 #[reg o W F T rd wr K lk, acc W2 r2 A S D] w fun e w' => e = .returned (.bool false) ∧ Below w.heap.size w w' := by
  go_enter Try.func26, Try.ntmps26
  go_wp2_with fail
  refine (q0 _).mono ?_
  rintro e w1 ⟨rfl, hb⟩
  have P0 := Lib.hid (((eight_new w o W F T rd wr K lk 64).alloc _).keep hb)
  have R0 := Lib.hid ((show Five _ (w.heap.size + 1) W2 r2 A S D by have := five_new (w.alloc (.cells #[.bool o, .int .i64 W, .int .u32 F, .int .u32 T, .bool rd, .bool wr, .int .i64 K, .bool lk] 64)) W2 r2 A S D 25; simpa using this).keep hb)
  have B0 := Lib.hid ((((Below.refl w.heap.size w).alloc (Nat.le_refl _) _).alloc (by simp) _).trans (hb.mono (by simp; omega)))
  clear hb
  have T1 := Lib.hid (Reach.two_new w1 x y 34)
  have P1 := Lib.hid (P0.out.alloc (.cells #[.int .u32 x, .int .u32 y] 34))
  have R1 := Lib.hid (R0.out.alloc (.cells #[.int .u32 x, .int .u32 y] 34))
  have B1 := Lib.hid (B0.out.alloc B0.out.size (.cells #[.int .u32 x, .int .u32 y] 34))
  clear P0 R0 B0
  obtain ⟨k0, k1, k2, k3, k4, k5, k6, k7⟩ := P1.out
  obtain ⟨m0, m1, m2, m3, m4⟩ := R1.out
  go_wp2_with fail
  refine (q1 _).mono ?_
  rintro e w3 ⟨rfl, hb⟩
  have P2 := Lib.hid (P1.out.keep hb)
  have R2 := Lib.hid (R1.out.keep hb)
  have T2 := Lib.hid (T1.out.keep hb)
  have B2 := Lib.hid (B1.out.trans (hb.mono B1.out.size))
  clear hb
  clear k0 k1 k2 k3 k4 k5 k6 k7
  clear m0 m1 m2 m3 m4
  obtain ⟨k0, k1, k2, k3, k4, k5, k6, k7⟩ := P2.out
  obtain ⟨m0, m1, m2, m3, m4⟩ := R2.out
  obtain ⟨n0, n1⟩ := T2.out
  go_wp2_with fail
  go_ret
  exact ⟨rfl, B2.out⟩

theorem has_3 (o : Bool) (W F T : Int) (rd wr : Bool) (K : Int) (lk : Bool) (r2 : Bool) (A S D : Int) (x y : Int) (w : World)
    (q0 : ∀ w, Calls Try.prog 40 #[acc W r2 A S D] w fun e w' => e = .returned (.tuple #[.agg #[.int .u32 x, .int .u32 y], .bool true]) ∧ Below w.heap.size w w') (q1 : ∀ w, Calls Try.prog 41 #[reg o W F T rd wr K lk] w fun e w' => e = .returned (.bool true) ∧ Below w.heap.size w w') (b : Bool) (q2 : ∀ w, Calls Try.prog 42 #[.agg #[.int .u32 x, .int .u32 y], .agg #[.int .u32 F, .int .u32 T]] w fun e w' => e = .returned (.bool b) ∧ Below w.heap.size w w') :
    Calls Try.prog 26 #[reg o W F T rd wr K lk, acc W r2 A S D] w fun e w' => e = .returned (.bool b) ∧ Below w.heap.size w w' := by
  go_enter Try.func26, Try.ntmps26
  go_wp2_with fail
  refine (q0 _).mono ?_
  rintro e w1 ⟨rfl, hb⟩
  have P0 := Lib.hid (((eight_new w o W F T rd wr K lk 64).alloc _).keep hb)
  have R0 := Lib.hid ((show Five _ (w.heap.size + 1) W r2 A S D by have := five_new (w.alloc (.cells #[.bool o, .int .i64 W, .int .u32 F, .int .u32 T, .bool rd, .bool wr, .int .i64 K, .bool lk] 64)) W r2 A S D 25; simpa using this).keep hb)
  have B0 := Lib.hid ((((Below.refl w.heap.size w).alloc (Nat.le_refl _) _).alloc (by simp) _).trans (hb.mono (by simp; omega)))
  clear hb
  have T1 := Lib.hid (Reach.two_new w1 x y 34)
  have P1 := Lib.hid (P0.out.alloc (.cells #[.int .u32 x, .int .u32 y] 34))
  have R1 := Lib.hid (R0.out.alloc (.cells #[.int .u32 x, .int .u32 y] 34))
  have B1 := Lib.hid (B0.out.alloc B0.out.size (.cells #[.int .u32 x, .int .u32 y] 34))
  clear P0 R0 B0
  obtain ⟨k0, k1, k2, k3, k4, k5, k6, k7⟩ := P1.out
  obtain ⟨m0, m1, m2, m3, m4⟩ := R1.out
  go_wp2_with fail
  refine (q1 _).mono ?_
  rintro e w3 ⟨rfl, hb⟩
  have P2 := Lib.hid (P1.out.keep hb)
  have R2 := Lib.hid (R1.out.keep hb)
  have T2 := Lib.hid (T1.out.keep hb)
  have B2 := Lib.hid (B1.out.trans (hb.mono B1.out.size))
  clear hb
  clear k0 k1 k2 k3 k4 k5 k6 k7
  clear m0 m1 m2 m3 m4
  obtain ⟨k0, k1, k2, k3, k4, k5, k6, k7⟩ := P2.out
  obtain ⟨m0, m1, m2, m3, m4⟩ := R2.out
  obtain ⟨n0, n1⟩ := T2.out
  go_wp2_with fail
  refine (q2 _).mono ?_
  rintro e w4 ⟨rfl, hb⟩
  have B3 := Lib.hid (B2.out.trans (hb.mono B2.out.size))
  clear hb
  go_wp2_with fail
  go_ret
  exact ⟨rfl, B3.out⟩

theorem has_any (o : Bool) (W F T : Int) (rd wr : Bool) (K : Int) (lk : Bool) (W2 : Int) (r2 : Bool) (A S D : Int) (b : Bool) (w : World) (hA : 0 ≤ A) (hA' : A < 4294967296) (hD : 0 ≤ D) (hD' : D < 4294967296) (hb : hasV o W F T K W2 r2 A S D = b) :
    Calls Try.prog 26 #[reg o W F T rd wr K lk, acc W2 r2 A S D] w fun e w' => e = .returned (.bool b) ∧ Below w.heap.size w w' := by
  subst hb
  unfold hasV
  cases h1 : Access.rightB W2 r2 A S D
  · exact has_0 o W F T rd wr K lk W2 r2 A S D _ _ w (fun w => Access.Reach_any W2 r2 A S D _ _ _ w hA hA' hD hD' h1 rfl rfl)
  cases h2 : standB o W F T K
  · exact has_1 o W F T rd wr K lk W2 r2 A S D _ _ w (fun w => Access.Reach_any W2 r2 A S D _ _ _ w hA hA' hD hD' h1 rfl rfl) (fun w => stands_any o W F T rd wr K lk _ w h2)
  by_cases h3 : ¬ W2 = W
  · rw [decide_eq_false h3]
    exact has_2 o W F T rd wr K lk W2 r2 A S D _ _ w (fun w => Access.Reach_any W2 r2 A S D _ _ _ w hA hA' hD hD' h1 rfl rfl) (fun w => stands_any o W F T rd wr K lk _ w h2) h3
  · obtain rfl := Decidable.not_not.1 h3
    rw [decide_eq_true rfl]
    exact has_3 o W2 F T rd wr K lk r2 A S D _ _ w (fun w => Access.Reach_any W2 r2 A S D _ _ _ w hA hA' hD hD' h1 rfl rfl) (fun w => stands_any o W2 F T rd wr K lk _ w h2) _ (fun w => Reach.In_val _ _ _ _ _ w (by simp [reF, reT]))
theorem Has_any (o : Bool) (W F T : Int) (rd wr : Bool) (K : Int) (lk : Bool) (W2 : Int) (r2 : Bool) (A S D : Int) (b : Bool) (w : World) (hA : 0 ≤ A) (hA' : A < 4294967296) (hD : 0 ≤ D) (hD' : D < 4294967296) (hb : hasV o W F T K W2 r2 A S D = b) :
    Calls Try.prog 12 #[reg o W F T rd wr K lk, acc W2 r2 A S D] w fun e w' => e = .returned (.bool b) ∧ Below w.heap.size w w' := by
  have R := fun w => has_any o W F T rd wr K lk W2 r2 A S D b w hA hA' hD hD' hb
  clear hb
  go_enter Try.func12, Try.ntmps12
  go_wp2_with fail
  refine (R _).mono ?_
  rintro e w1 ⟨rfl, hb⟩
  have Hb := Lib.hid ((((Below.refl w.heap.size w).alloc (Nat.le_refl _) _).alloc (by simp) _).trans (hb.mono (by simp; omega)))
  clear hb
  go_wp2_with fail
  go_ret
  exact ⟨rfl, Hb.out⟩

end Go.Proofs.Ytmkponhhinjpkaa.Region
/- Contracts: Lets, Clash, Above, both ways. -/
namespace Go.Proofs.Ytmkponhhinjpkaa.Region
open Go.RowKit Go.Proofs.Ytmkponhhinjpkaa.Access
set_option linter.unusedVariables false

theorem lets_0 (o : Bool) (W F T : Int) (rd wr : Bool) (K : Int) (lk : Bool) (W2 : Int) (r2 : Bool) (A S D : Int) (w : World)
    (q0 : ∀ w, Calls Try.prog 12 #[reg o W F T rd wr K lk, acc W2 r2 A S D] w fun e w' => e = .returned (.bool false) ∧ Below w.heap.size w w') :
    Calls Try.prog 14 #[reg o W F T rd wr K lk, acc W2 r2 A S D] w fun e w' => e = .returned (.bool false) ∧ Below w.heap.size w w' := by
  go_enter Try.func14, Try.ntmps14
  go_wp2_with fail
  refine (q0 _).mono ?_
  rintro e w1 ⟨rfl, hb⟩
  have P0 := Lib.hid (((eight_new w o W F T rd wr K lk 36).alloc _).keep hb)
  have R0 := Lib.hid ((show Five _ (w.heap.size + 1) W2 r2 A S D by have := five_new (w.alloc (.cells #[.bool o, .int .i64 W, .int .u32 F, .int .u32 T, .bool rd, .bool wr, .int .i64 K, .bool lk] 36)) W2 r2 A S D 25; simpa using this).keep hb)
  have B0 := Lib.hid ((((Below.refl w.heap.size w).alloc (Nat.le_refl _) _).alloc (by simp) _).trans (hb.mono (by simp; omega)))
  clear hb
  obtain ⟨k0, k1, k2, k3, k4, k5, k6, k7⟩ := P0.out
  obtain ⟨m0, m1, m2, m3, m4⟩ := R0.out
  go_wp2_with fail
  go_ret
  exact ⟨rfl, B0.out⟩

theorem lets_1 (o : Bool) (W F T : Int) (rd wr : Bool) (K : Int) (lk : Bool) (W2 : Int) (r2 : Bool) (A S D : Int) (w : World)
    (q0 : ∀ w, Calls Try.prog 12 #[reg o W F T rd wr K lk, acc W2 r2 A S D] w fun e w' => e = .returned (.bool true) ∧ Below w.heap.size w w') (b : Bool) (q1 : ∀ w, Calls Try.prog 28 #[reg o W F T rd wr K lk, .bool r2] w fun e w' => e = .returned (.bool b) ∧ Below w.heap.size w w') :
    Calls Try.prog 14 #[reg o W F T rd wr K lk, acc W2 r2 A S D] w fun e w' => e = .returned (.bool b) ∧ Below w.heap.size w w' := by
  go_enter Try.func14, Try.ntmps14
  go_wp2_with fail
  refine (q0 _).mono ?_
  rintro e w1 ⟨rfl, hb⟩
  have P0 := Lib.hid (((eight_new w o W F T rd wr K lk 36).alloc _).keep hb)
  have R0 := Lib.hid ((show Five _ (w.heap.size + 1) W2 r2 A S D by have := five_new (w.alloc (.cells #[.bool o, .int .i64 W, .int .u32 F, .int .u32 T, .bool rd, .bool wr, .int .i64 K, .bool lk] 36)) W2 r2 A S D 25; simpa using this).keep hb)
  have B0 := Lib.hid ((((Below.refl w.heap.size w).alloc (Nat.le_refl _) _).alloc (by simp) _).trans (hb.mono (by simp; omega)))
  clear hb
  obtain ⟨k0, k1, k2, k3, k4, k5, k6, k7⟩ := P0.out
  obtain ⟨m0, m1, m2, m3, m4⟩ := R0.out
  go_wp2_with fail
  refine (q1 _).mono ?_
  rintro e w2 ⟨rfl, hb⟩
  have B1 := Lib.hid (B0.out.trans (hb.mono B0.out.size))
  clear hb
  go_wp2_with fail
  go_ret
  exact ⟨rfl, B1.out⟩

theorem Lets_any (o : Bool) (W F T : Int) (rd wr : Bool) (K : Int) (lk : Bool) (W2 : Int) (r2 : Bool) (A S D : Int) (b : Bool) (w : World) (hA : 0 ≤ A) (hA' : A < 4294967296) (hD : 0 ≤ D) (hD' : D < 4294967296) (hb : letsV o W F T rd wr K W2 r2 A S D = b) :
    Calls Try.prog 14 #[reg o W F T rd wr K lk, acc W2 r2 A S D] w fun e w' => e = .returned (.bool b) ∧ Below w.heap.size w w' := by
  subst hb
  unfold letsV
  cases h1 : hasV o W F T K W2 r2 A S D
  · exact lets_0 o W F T rd wr K lk W2 r2 A S D w (fun w => Has_any o W F T rd wr K lk W2 r2 A S D _ w hA hA' hD hD' h1)
  · exact lets_1 o W F T rd wr K lk W2 r2 A S D w (fun w => Has_any o W F T rd wr K lk W2 r2 A S D _ w hA hA' hD hD' h1) _ (fun w => open_any o W F T rd wr K lk _ _ w (by simp))

theorem bs_0 (o : Bool) (W F T : Int) (rd wr : Bool) (K : Int) (lk : Bool) (p : Bool) (V G U : Int) (re we : Bool) (L : Int) (ke : Bool) (w : World)
    (q0 : ∀ w, Calls Try.prog 41 #[reg o W F T rd wr K lk] w fun e w' => e = .returned (.bool false) ∧ Below w.heap.size w w') :
    Calls Try.prog 27 #[reg o W F T rd wr K lk, reg p V G U re we L ke] w fun e w' => e = .returned (.bool false) ∧ Below w.heap.size w w' := by
  go_enter Try.func27, Try.ntmps27
  go_wp2_with fail
  refine (q0 _).mono ?_
  rintro e w1 ⟨rfl, hb⟩
  have P0 := Lib.hid (((eight_new w o W F T rd wr K lk 36).alloc _).keep hb)
  have R0 := Lib.hid ((show Eight _ (w.heap.size + 1) p V G U re we L ke by have := eight_new (w.alloc (.cells #[.bool o, .int .i64 W, .int .u32 F, .int .u32 T, .bool rd, .bool wr, .int .i64 K, .bool lk] 36)) p V G U re we L ke 36; simpa using this).keep hb)
  have B0 := Lib.hid ((((Below.refl w.heap.size w).alloc (Nat.le_refl _) _).alloc (by simp) _).trans (hb.mono (by simp; omega)))
  clear hb
  obtain ⟨k0, k1, k2, k3, k4, k5, k6, k7⟩ := P0.out
  obtain ⟨m0, m1, m2, m3, m4, m5, m6, m7⟩ := R0.out
  go_wp2_with fail
  go_ret
  exact ⟨rfl, B0.out⟩

theorem bs_1 (o : Bool) (W F T : Int) (rd wr : Bool) (K : Int) (lk : Bool) (p : Bool) (V G U : Int) (re we : Bool) (L : Int) (ke : Bool) (w : World)
    (q0 : ∀ w, Calls Try.prog 41 #[reg o W F T rd wr K lk] w fun e w' => e = .returned (.bool true) ∧ Below w.heap.size w w') (b : Bool) (q1 : ∀ w, Calls Try.prog 41 #[reg p V G U re we L ke] w fun e w' => e = .returned (.bool b) ∧ Below w.heap.size w w') :
    Calls Try.prog 27 #[reg o W F T rd wr K lk, reg p V G U re we L ke] w fun e w' => e = .returned (.bool b) ∧ Below w.heap.size w w' := by
  go_enter Try.func27, Try.ntmps27
  go_wp2_with fail
  refine (q0 _).mono ?_
  rintro e w1 ⟨rfl, hb⟩
  have P0 := Lib.hid (((eight_new w o W F T rd wr K lk 36).alloc _).keep hb)
  have R0 := Lib.hid ((show Eight _ (w.heap.size + 1) p V G U re we L ke by have := eight_new (w.alloc (.cells #[.bool o, .int .i64 W, .int .u32 F, .int .u32 T, .bool rd, .bool wr, .int .i64 K, .bool lk] 36)) p V G U re we L ke 36; simpa using this).keep hb)
  have B0 := Lib.hid ((((Below.refl w.heap.size w).alloc (Nat.le_refl _) _).alloc (by simp) _).trans (hb.mono (by simp; omega)))
  clear hb
  obtain ⟨k0, k1, k2, k3, k4, k5, k6, k7⟩ := P0.out
  obtain ⟨m0, m1, m2, m3, m4, m5, m6, m7⟩ := R0.out
  go_wp2_with fail
  refine (q1 _).mono ?_
  rintro e w2 ⟨rfl, hb⟩
  have B1 := Lib.hid (B0.out.trans (hb.mono B0.out.size))
  clear hb
  go_wp2_with fail
  go_ret
  exact ⟨rfl, B1.out⟩

theorem both_any (o : Bool) (W F T : Int) (rd wr : Bool) (K : Int) (lk : Bool) (p : Bool) (V G U : Int) (re we : Bool) (L : Int) (ke : Bool) (b : Bool) (w : World) (hb : (standB o W F T K && standB p V G U L) = b) :
    Calls Try.prog 27 #[reg o W F T rd wr K lk, reg p V G U re we L ke] w fun e w' => e = .returned (.bool b) ∧ Below w.heap.size w w' := by
  subst hb
  cases h1 : standB o W F T K
  · exact bs_0 o W F T rd wr K lk p V G U re we L ke w (fun w => stands_any o W F T rd wr K lk _ w h1)
  · exact bs_1 o W F T rd wr K lk p V G U re we L ke w (fun w => stands_any o W F T rd wr K lk _ w h1) _ (fun w => stands_any p V G U re we L ke _ w (by simp))

theorem clash_0 (o : Bool) (W F T : Int) (rd wr : Bool) (K : Int) (lk : Bool) (p : Bool) (V G U : Int) (re we : Bool) (L : Int) (ke : Bool) (x y : Int) (m : Bool) (w : World)
    (q0 : ∀ w, Calls Try.prog 60 #[.agg #[.int .u32 F, .int .u32 T], .agg #[.int .u32 G, .int .u32 U]] w fun e w' => e = .returned (.tuple #[.agg #[.int .u32 x, .int .u32 y], .bool m]) ∧ Below w.heap.size w w') (q1 : ∀ w, Calls Try.prog 27 #[reg o W F T rd wr K lk, reg p V G U re we L ke] w fun e w' => e = .returned (.bool false) ∧ Below w.heap.size w w') :
    Calls Try.prog 45 #[reg o W F T rd wr K lk, reg p V G U re we L ke] w fun e w' => e = .returned (.bool false) ∧ Below w.heap.size w w' := by
  go_enter Try.func45, Try.ntmps45
  go_wp2_with fail
  refine (q0 _).mono ?_
  rintro e w1 ⟨rfl, hb⟩
  have P0 := Lib.hid (((eight_new w o W F T rd wr K lk 36).alloc _).keep hb)
  have R0 := Lib.hid ((show Eight _ (w.heap.size + 1) p V G U re we L ke by have := eight_new (w.alloc (.cells #[.bool o, .int .i64 W, .int .u32 F, .int .u32 T, .bool rd, .bool wr, .int .i64 K, .bool lk] 36)) p V G U re we L ke 36; simpa using this).keep hb)
  have B0 := Lib.hid ((((Below.refl w.heap.size w).alloc (Nat.le_refl _) _).alloc (by simp) _).trans (hb.mono (by simp; omega)))
  clear hb
  have T1 := Lib.hid (Reach.two_new w1 x y 34)
  have P1 := Lib.hid (P0.out.alloc (.cells #[.int .u32 x, .int .u32 y] 34))
  have R1 := Lib.hid (R0.out.alloc (.cells #[.int .u32 x, .int .u32 y] 34))
  have B1 := Lib.hid (B0.out.alloc B0.out.size (.cells #[.int .u32 x, .int .u32 y] 34))
  clear P0 R0 B0
  obtain ⟨k0, k1, k2, k3, k4, k5, k6, k7⟩ := P1.out
  obtain ⟨m0, m1, m2, m3, m4, m5, m6, m7⟩ := R1.out
  go_wp2_with fail
  refine (q1 _).mono ?_
  rintro e w3 ⟨rfl, hb⟩
  have P2 := Lib.hid (P1.out.keep hb)
  have R2 := Lib.hid (R1.out.keep hb)
  have B2 := Lib.hid (B1.out.trans (hb.mono B1.out.size))
  clear hb
  clear k0 k1 k2 k3 k4 k5 k6 k7
  clear m0 m1 m2 m3 m4 m5 m6 m7
  obtain ⟨k0, k1, k2, k3, k4, k5, k6, k7⟩ := P2.out
  obtain ⟨m0, m1, m2, m3, m4, m5, m6, m7⟩ := R2.out
  go_wp2_with fail
  go_ret
  exact ⟨rfl, B2.out⟩

theorem clash_1 (o : Bool) (W F T : Int) (rd wr : Bool) (K : Int) (lk : Bool) (p : Bool) (G U : Int) (re we : Bool) (L : Int) (ke : Bool) (x y : Int) (m : Bool) (w : World)
    (q0 : ∀ w, Calls Try.prog 60 #[.agg #[.int .u32 F, .int .u32 T], .agg #[.int .u32 G, .int .u32 U]] w fun e w' => e = .returned (.tuple #[.agg #[.int .u32 x, .int .u32 y], .bool m]) ∧ Below w.heap.size w w') (q1 : ∀ w, Calls Try.prog 27 #[reg o W F T rd wr K lk, reg p W G U re we L ke] w fun e w' => e = .returned (.bool true) ∧ Below w.heap.size w w') :
    Calls Try.prog 45 #[reg o W F T rd wr K lk, reg p W G U re we L ke] w fun e w' => e = .returned (.bool false) ∧ Below w.heap.size w w' := by
  go_enter Try.func45, Try.ntmps45
  go_wp2_with fail
  refine (q0 _).mono ?_
  rintro e w1 ⟨rfl, hb⟩
  have P0 := Lib.hid (((eight_new w o W F T rd wr K lk 36).alloc _).keep hb)
  have R0 := Lib.hid ((show Eight _ (w.heap.size + 1) p W G U re we L ke by have := eight_new (w.alloc (.cells #[.bool o, .int .i64 W, .int .u32 F, .int .u32 T, .bool rd, .bool wr, .int .i64 K, .bool lk] 36)) p W G U re we L ke 36; simpa using this).keep hb)
  have B0 := Lib.hid ((((Below.refl w.heap.size w).alloc (Nat.le_refl _) _).alloc (by simp) _).trans (hb.mono (by simp; omega)))
  clear hb
  have T1 := Lib.hid (Reach.two_new w1 x y 34)
  have P1 := Lib.hid (P0.out.alloc (.cells #[.int .u32 x, .int .u32 y] 34))
  have R1 := Lib.hid (R0.out.alloc (.cells #[.int .u32 x, .int .u32 y] 34))
  have B1 := Lib.hid (B0.out.alloc B0.out.size (.cells #[.int .u32 x, .int .u32 y] 34))
  clear P0 R0 B0
  obtain ⟨k0, k1, k2, k3, k4, k5, k6, k7⟩ := P1.out
  obtain ⟨m0, m1, m2, m3, m4, m5, m6, m7⟩ := R1.out
  go_wp2_with fail
  refine (q1 _).mono ?_
  rintro e w3 ⟨rfl, hb⟩
  have P2 := Lib.hid (P1.out.keep hb)
  have R2 := Lib.hid (R1.out.keep hb)
  have B2 := Lib.hid (B1.out.trans (hb.mono B1.out.size))
  clear hb
  clear k0 k1 k2 k3 k4 k5 k6 k7
  clear m0 m1 m2 m3 m4 m5 m6 m7
  obtain ⟨k0, k1, k2, k3, k4, k5, k6, k7⟩ := P2.out
  obtain ⟨m0, m1, m2, m3, m4, m5, m6, m7⟩ := R2.out
  go_wp2_with fail
  go_ret
  exact ⟨rfl, B2.out⟩

theorem clash_2 (o : Bool) (W F T : Int) (rd wr : Bool) (K : Int) (lk : Bool) (p : Bool) (V G U : Int) (re we : Bool) (L : Int) (ke : Bool) (x y : Int) (m : Bool) (w : World)
    (q0 : ∀ w, Calls Try.prog 60 #[.agg #[.int .u32 F, .int .u32 T], .agg #[.int .u32 G, .int .u32 U]] w fun e w' => e = .returned (.tuple #[.agg #[.int .u32 x, .int .u32 y], .bool m]) ∧ Below w.heap.size w w') (q1 : ∀ w, Calls Try.prog 27 #[reg o W F T rd wr K lk, reg p V G U re we L ke] w fun e w' => e = .returned (.bool true) ∧ Below w.heap.size w w') (h : ¬ W = V) :
    Calls Try.prog 45 #[reg o W F T rd wr K lk, reg p V G U re we L ke] w fun e w' => e = .returned (.bool m) ∧ Below w.heap.size w w' := by
  go_enter Try.func45, Try.ntmps45
  go_wp2_with fail
  refine (q0 _).mono ?_
  rintro e w1 ⟨rfl, hb⟩
  have P0 := Lib.hid (((eight_new w o W F T rd wr K lk 36).alloc _).keep hb)
  have R0 := Lib.hid ((show Eight _ (w.heap.size + 1) p V G U re we L ke by have := eight_new (w.alloc (.cells #[.bool o, .int .i64 W, .int .u32 F, .int .u32 T, .bool rd, .bool wr, .int .i64 K, .bool lk] 36)) p V G U re we L ke 36; simpa using this).keep hb)
  have B0 := Lib.hid ((((Below.refl w.heap.size w).alloc (Nat.le_refl _) _).alloc (by simp) _).trans (hb.mono (by simp; omega)))
  clear hb
  have T1 := Lib.hid (Reach.two_new w1 x y 34)
  have P1 := Lib.hid (P0.out.alloc (.cells #[.int .u32 x, .int .u32 y] 34))
  have R1 := Lib.hid (R0.out.alloc (.cells #[.int .u32 x, .int .u32 y] 34))
  have B1 := Lib.hid (B0.out.alloc B0.out.size (.cells #[.int .u32 x, .int .u32 y] 34))
  clear P0 R0 B0
  obtain ⟨k0, k1, k2, k3, k4, k5, k6, k7⟩ := P1.out
  obtain ⟨m0, m1, m2, m3, m4, m5, m6, m7⟩ := R1.out
  go_wp2_with fail
  refine (q1 _).mono ?_
  rintro e w3 ⟨rfl, hb⟩
  have P2 := Lib.hid (P1.out.keep hb)
  have R2 := Lib.hid (R1.out.keep hb)
  have B2 := Lib.hid (B1.out.trans (hb.mono B1.out.size))
  clear hb
  clear k0 k1 k2 k3 k4 k5 k6 k7
  clear m0 m1 m2 m3 m4 m5 m6 m7
  obtain ⟨k0, k1, k2, k3, k4, k5, k6, k7⟩ := P2.out
  obtain ⟨m0, m1, m2, m3, m4, m5, m6, m7⟩ := R2.out
  go_wp2_with fail
  go_ret
  exact ⟨ret_bool (by simp [h]), B2.out⟩

theorem Clash_any (o : Bool) (W F T : Int) (rd wr : Bool) (K : Int) (lk : Bool) (p : Bool) (V G U : Int) (re we : Bool) (L : Int) (ke : Bool) (b : Bool) (w : World) (hb : clashV o W F T K p V G U L = b) :
    Calls Try.prog 45 #[reg o W F T rd wr K lk, reg p V G U re we L ke] w fun e w' => e = .returned (.bool b) ∧ Below w.heap.size w w' := by
  subst hb
  unfold clashV
  cases h1 : (standB o W F T K && standB p V G U L)
  · exact clash_0 o W F T rd wr K lk p V G U re we L ke _ _ _ w (fun w => Reach.Meet_val F T G U _ _ _ w rfl rfl rfl) (fun w => both_any o W F T rd wr K lk p V G U re we L ke _ w h1)
  by_cases h : W = V
  · subst h
    rw [decide_eq_false (by simp)]
    exact clash_1 o W F T rd wr K lk p G U re we L ke _ _ _ w (fun w => Reach.Meet_val F T G U _ _ _ w rfl rfl rfl) (fun w => both_any o W F T rd wr K lk p W G U re we L ke _ w h1)
  · rw [decide_eq_true h]
    simpa using clash_2 o W F T rd wr K lk p V G U re we L ke _ _ _ w (fun w => Reach.Meet_val F T G U _ _ _ w rfl rfl rfl) (fun w => both_any o W F T rd wr K lk p V G U re we L ke _ w h1) h

theorem above_0 (o : Bool) (W F T : Int) (rd wr : Bool) (K : Int) (lk : Bool) (p : Bool) (V G U : Int) (re we : Bool) (L : Int) (ke : Bool) (w : World)
    (q0 : ∀ w, Calls Try.prog 27 #[reg o W F T rd wr K lk, reg p V G U re we L ke] w fun e w' => e = .returned (.bool false) ∧ Below w.heap.size w w') :
    Calls Try.prog 13 #[reg o W F T rd wr K lk, reg p V G U re we L ke] w fun e w' => e = .returned (.bool false) ∧ Below w.heap.size w w' := by
  go_enter Try.func13, Try.ntmps13
  go_wp2_with fail
  refine (q0 _).mono ?_
  rintro e w1 ⟨rfl, hb⟩
  have P0 := Lib.hid (((eight_new w o W F T rd wr K lk 36).alloc _).keep hb)
  have R0 := Lib.hid ((show Eight _ (w.heap.size + 1) p V G U re we L ke by have := eight_new (w.alloc (.cells #[.bool o, .int .i64 W, .int .u32 F, .int .u32 T, .bool rd, .bool wr, .int .i64 K, .bool lk] 36)) p V G U re we L ke 36; simpa using this).keep hb)
  have B0 := Lib.hid ((((Below.refl w.heap.size w).alloc (Nat.le_refl _) _).alloc (by simp) _).trans (hb.mono (by simp; omega)))
  clear hb
  obtain ⟨k0, k1, k2, k3, k4, k5, k6, k7⟩ := P0.out
  obtain ⟨m0, m1, m2, m3, m4, m5, m6, m7⟩ := R0.out
  go_wp2_with fail
  go_ret
  exact ⟨rfl, B0.out⟩

theorem above_1 (o : Bool) (W F T : Int) (rd wr : Bool) (K : Int) (lk : Bool) (p : Bool) (V G U : Int) (re we : Bool) (L : Int) (ke : Bool) (w : World)
    (q0 : ∀ w, Calls Try.prog 27 #[reg o W F T rd wr K lk, reg p V G U re we L ke] w fun e w' => e = .returned (.bool true) ∧ Below w.heap.size w w') :
    Calls Try.prog 13 #[reg o W F T rd wr K lk, reg p V G U re we L ke] w fun e w' => e = .returned (.bool (decide (L < K))) ∧ Below w.heap.size w w' := by
  go_enter Try.func13, Try.ntmps13
  go_wp2_with fail
  refine (q0 _).mono ?_
  rintro e w1 ⟨rfl, hb⟩
  have P0 := Lib.hid (((eight_new w o W F T rd wr K lk 36).alloc _).keep hb)
  have R0 := Lib.hid ((show Eight _ (w.heap.size + 1) p V G U re we L ke by have := eight_new (w.alloc (.cells #[.bool o, .int .i64 W, .int .u32 F, .int .u32 T, .bool rd, .bool wr, .int .i64 K, .bool lk] 36)) p V G U re we L ke 36; simpa using this).keep hb)
  have B0 := Lib.hid ((((Below.refl w.heap.size w).alloc (Nat.le_refl _) _).alloc (by simp) _).trans (hb.mono (by simp; omega)))
  clear hb
  obtain ⟨k0, k1, k2, k3, k4, k5, k6, k7⟩ := P0.out
  obtain ⟨m0, m1, m2, m3, m4, m5, m6, m7⟩ := R0.out
  go_wp2_with fail
  go_ret
  exact ⟨rfl, B0.out⟩

theorem Above_any (o : Bool) (W F T : Int) (rd wr : Bool) (K : Int) (lk : Bool) (p : Bool) (V G U : Int) (re we : Bool) (L : Int) (ke : Bool) (b : Bool) (w : World) (hb : aboveV o W F T K p V G U L = b) :
    Calls Try.prog 13 #[reg o W F T rd wr K lk, reg p V G U re we L ke] w fun e w' => e = .returned (.bool b) ∧ Below w.heap.size w w' := by
  subst hb
  unfold aboveV
  cases h1 : (standB o W F T K && standB p V G U L)
  · exact above_0 o W F T rd wr K lk p V G U re we L ke w (fun w => both_any o W F T rd wr K lk p V G U re we L ke _ w h1)
  · simpa using above_1 o W F T rd wr K lk p V G U re we L ke w (fun w => both_any o W F T rd wr K lk p V G U re we L ke _ w h1)

end Go.Proofs.Ytmkponhhinjpkaa.Region
