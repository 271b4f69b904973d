/- Contracts: whether a region stands, is right, both ways. -/
import Derived.Test.YtploggfaihfeeaaHb
namespace Go.Proofs.Ytploggfaihfeeaa.Region
open Go.RowKit Go.Proofs.Ytploggfaihfeeaa.Access
set_option linter.unusedVariables false

/-- The row of what must hold. -/
structure Holds (w : World) (g : Nat) (v : Value) : Prop where
  c0 : w.cell? ⟨g, 0, none⟩ = some (.func (.func 43) #[v] #[])
  c1 : w.cell? ⟨g, 1, none⟩ = some (.func (.func 44) #[v] #[])
  c2 : w.cell? ⟨g, 2, none⟩ = some (.func (.func 45) #[v] #[])
  c3 : w.cell? ⟨g, 3, none⟩ = some (.func (.func 46) #[v] #[])
theorem Holds.keep {w w' : World} {g : Nat} {v : Value} (h : Holds w g v) (hb : Below w.heap.size w w') : Holds w' g v := ⟨cell_keep hb h.c0, cell_keep hb h.c1, cell_keep hb h.c2, cell_keep hb h.c3⟩
theorem holds_new (w : World) (v : Value) (o : Obj) (g : Nat) (hg : w.heap.size + 1 = g) (W0 : World)
    (hW : W0 = (w.alloc o).alloc (.cells #[.func (.func 43) #[v] #[], .func (.func 44) #[v] #[], .func (.func 45) #[v] #[], .func (.func 46) #[v] #[]] 30)) :
    Holds W0 g v ∧ Below w.heap.size w W0 := by
  subst hW
  have e : (w.alloc o).heap.size = g := by simpa using hg
  subst e
  exact ⟨⟨World.cell?_alloc_at _ _ _ 0 rfl, World.cell?_alloc_at _ _ _ 1 rfl, World.cell?_alloc_at _ _ _ 2 rfl, World.cell?_alloc_at _ _ _ 3 rfl⟩, ((Below.refl _ _).alloc (Nat.le_refl _) _).alloc (by simp) _⟩

theorem stands_1 (o : Bool) (W F T : Int) (rd wr : Bool) (K : Int) (lk : Bool) (w : World)
    (q0 : ∀ w, Calls Try.prog 43 #[reg o W F T rd wr K lk] w fun e w' => e = .returned (.bool false) ∧ Below w.heap.size w w') :
    Calls Try.prog 37 #[reg o W F T rd wr K lk] w fun e w' => e = .returned (.bool false) ∧ Below w.heap.size w w' := by
  have hmf : ∀ (fn : Fn) (first cap : Array Value) (w : World), (Instr.makeFunc fn first cap).run Try.prog w = .ok (.func fn first cap) w := fun _ _ _ _ => rfl
  go_enter Try.func37, Try.ntmps37
  go_wp2_with fail
  obtain ⟨v, hv⟩ : ∃ v, v = reg o W F T rd wr K lk := ⟨_, rfl⟩
  obtain ⟨W0, hW0⟩ : ∃ X : World, X = (w.alloc (.cells #[.bool o, .int .i64 W, .int .u32 F, .int .u32 T, .bool rd, .bool wr, .int .i64 K, .bool lk] 44)).alloc (.cells #[.func (.func 43) #[v] #[], .func (.func 44) #[v] #[], .func (.func 45) #[v] #[], .func (.func 46) #[v] #[]] 30) := ⟨_, rfl⟩
  have hA := holds_new w v _ _ rfl W0 hW0
  subst hv
  rw [← hW0]
  obtain ⟨g, hg⟩ : ∃ g, w.heap.size + 1 = g := ⟨_, rfl⟩
  rw [hg] at hA
  rw [hg]
  have HA := Lib.hid hA.1
  have HB := Lib.hid hA.2
  clear hA hg hW0
  refine wp_loop_rounds 5 ?_
  rw [rounds_succ]
  have d0 := HA.out.c0
  go_wp2_with fail
  refine (q0 _).mono ?_
  rintro e w1 ⟨rfl, hb⟩
  have HA1 := Lib.hid (HA.out.keep hb)
  have HB1 := Lib.hid (HB.out.trans (hb.mono HB.out.size))
  clear hb d0
  go_wp2_with fail
  go_ret
  exact ⟨rfl, HB1.out⟩

theorem stands_2 (o : Bool) (W F T : Int) (rd wr : Bool) (K : Int) (lk : Bool) (w : World)
    (q0 : ∀ w, Calls Try.prog 43 #[reg o W F T rd wr K lk] w fun e w' => e = .returned (.bool true) ∧ Below w.heap.size w w')
    (q1 : ∀ w, Calls Try.prog 44 #[reg o W F T rd wr K lk] w fun e w' => e = .returned (.bool false) ∧ Below w.heap.size w w') :
    Calls Try.prog 37 #[reg o W F T rd wr K lk] w fun e w' => e = .returned (.bool false) ∧ Below w.heap.size w w' := by
  have hmf : ∀ (fn : Fn) (first cap : Array Value) (w : World), (Instr.makeFunc fn first cap).run Try.prog w = .ok (.func fn first cap) w := fun _ _ _ _ => rfl
  go_enter Try.func37, Try.ntmps37
  go_wp2_with fail
  obtain ⟨v, hv⟩ : ∃ v, v = reg o W F T rd wr K lk := ⟨_, rfl⟩
  obtain ⟨W0, hW0⟩ : ∃ X : World, X = (w.alloc (.cells #[.bool o, .int .i64 W, .int .u32 F, .int .u32 T, .bool rd, .bool wr, .int .i64 K, .bool lk] 44)).alloc (.cells #[.func (.func 43) #[v] #[], .func (.func 44) #[v] #[], .func (.func 45) #[v] #[], .func (.func 46) #[v] #[]] 30) := ⟨_, rfl⟩
  have hA := holds_new w v _ _ rfl W0 hW0
  subst hv
  rw [← hW0]
  obtain ⟨g, hg⟩ : ∃ g, w.heap.size + 1 = g := ⟨_, rfl⟩
  rw [hg] at hA
  rw [hg]
  have HA := Lib.hid hA.1
  have HB := Lib.hid hA.2
  clear hA hg hW0
  refine wp_loop_rounds 5 ?_
  rw [rounds_succ]
  have d0 := HA.out.c0
  go_wp2_with fail
  refine (q0 _).mono ?_
  rintro e w1 ⟨rfl, hb⟩
  have HA1 := Lib.hid (HA.out.keep hb)
  have HB1 := Lib.hid (HB.out.trans (hb.mono HB.out.size))
  clear hb d0
  go_wp2_with fail
  rw [rounds_succ]
  have d1 := HA1.out.c1
  go_wp2_with fail
  refine (q1 _).mono ?_
  rintro e w2 ⟨rfl, hb⟩
  have HA2 := Lib.hid (HA1.out.keep hb)
  have HB2 := Lib.hid (HB1.out.trans (hb.mono HB1.out.size))
  clear hb d1
  go_wp2_with fail
  go_ret
  exact ⟨rfl, HB2.out⟩

theorem stands_3 (o : Bool) (W F T : Int) (rd wr : Bool) (K : Int) (lk : Bool) (w : World)
    (q0 : ∀ w, Calls Try.prog 43 #[reg o W F T rd wr K lk] w fun e w' => e = .returned (.bool true) ∧ Below w.heap.size w w')
    (q1 : ∀ w, Calls Try.prog 44 #[reg o W F T rd wr K lk] w fun e w' => e = .returned (.bool true) ∧ Below w.heap.size w w')
    (q2 : ∀ w, Calls Try.prog 45 #[reg o W F T rd wr K lk] w fun e w' => e = .returned (.bool false) ∧ Below w.heap.size w w') :
    Calls Try.prog 37 #[reg o W F T rd wr K lk] w fun e w' => e = .returned (.bool false) ∧ Below w.heap.size w w' := by
  have hmf : ∀ (fn : Fn) (first cap : Array Value) (w : World), (Instr.makeFunc fn first cap).run Try.prog w = .ok (.func fn first cap) w := fun _ _ _ _ => rfl
  go_enter Try.func37, Try.ntmps37
  go_wp2_with fail
  obtain ⟨v, hv⟩ : ∃ v, v = reg o W F T rd wr K lk := ⟨_, rfl⟩
  obtain ⟨W0, hW0⟩ : ∃ X : World, X = (w.alloc (.cells #[.bool o, .int .i64 W, .int .u32 F, .int .u32 T, .bool rd, .bool wr, .int .i64 K, .bool lk] 44)).alloc (.cells #[.func (.func 43) #[v] #[], .func (.func 44) #[v] #[], .func (.func 45) #[v] #[], .func (.func 46) #[v] #[]] 30) := ⟨_, rfl⟩
  have hA := holds_new w v _ _ rfl W0 hW0
  subst hv
  rw [← hW0]
  obtain ⟨g, hg⟩ : ∃ g, w.heap.size + 1 = g := ⟨_, rfl⟩
  rw [hg] at hA
  rw [hg]
  have HA := Lib.hid hA.1
  have HB := Lib.hid hA.2
  clear hA hg hW0
  refine wp_loop_rounds 5 ?_
  rw [rounds_succ]
  have d0 := HA.out.c0
  go_wp2_with fail
  refine (q0 _).mono ?_
  rintro e w1 ⟨rfl, hb⟩
  have HA1 := Lib.hid (HA.out.keep hb)
  have HB1 := Lib.hid (HB.out.trans (hb.mono HB.out.size))
  clear hb d0
  go_wp2_with fail
  rw [rounds_succ]
  have d1 := HA1.out.c1
  go_wp2_with fail
  refine (q1 _).mono ?_
  rintro e w2 ⟨rfl, hb⟩
  have HA2 := Lib.hid (HA1.out.keep hb)
  have HB2 := Lib.hid (HB1.out.trans (hb.mono HB1.out.size))
  clear hb d1
  go_wp2_with fail
  rw [rounds_succ]
  have d2 := HA2.out.c2
  go_wp2_with fail
  refine (q2 _).mono ?_
  rintro e w3 ⟨rfl, hb⟩
  have HA3 := Lib.hid (HA2.out.keep hb)
  have HB3 := Lib.hid (HB2.out.trans (hb.mono HB2.out.size))
  clear hb d2
  go_wp2_with fail
  go_ret
  exact ⟨rfl, HB3.out⟩

theorem stands_4 (o : Bool) (W F T : Int) (rd wr : Bool) (K : Int) (lk : Bool) (w : World)
    (q0 : ∀ w, Calls Try.prog 43 #[reg o W F T rd wr K lk] w fun e w' => e = .returned (.bool true) ∧ Below w.heap.size w w')
    (q1 : ∀ w, Calls Try.prog 44 #[reg o W F T rd wr K lk] w fun e w' => e = .returned (.bool true) ∧ Below w.heap.size w w')
    (q2 : ∀ w, Calls Try.prog 45 #[reg o W F T rd wr K lk] w fun e w' => e = .returned (.bool true) ∧ Below w.heap.size w w')
    (q3 : ∀ w, Calls Try.prog 46 #[reg o W F T rd wr K lk] w fun e w' => e = .returned (.bool false) ∧ Below w.heap.size w w') :
    Calls Try.prog 37 #[reg o W F T rd wr K lk] w fun e w' => e = .returned (.bool false) ∧ Below w.heap.size w w' := by
  have hmf : ∀ (fn : Fn) (first cap : Array Value) (w : World), (Instr.makeFunc fn first cap).run Try.prog w = .ok (.func fn first cap) w := fun _ _ _ _ => rfl
  go_enter Try.func37, Try.ntmps37
  go_wp2_with fail
  obtain ⟨v, hv⟩ : ∃ v, v = reg o W F T rd wr K lk := ⟨_, rfl⟩
  obtain ⟨W0, hW0⟩ : ∃ X : World, X = (w.alloc (.cells #[.bool o, .int .i64 W, .int .u32 F, .int .u32 T, .bool rd, .bool wr, .int .i64 K, .bool lk] 44)).alloc (.cells #[.func (.func 43) #[v] #[], .func (.func 44) #[v] #[], .func (.func 45) #[v] #[], .func (.func 46) #[v] #[]] 30) := ⟨_, rfl⟩
  have hA := holds_new w v _ _ rfl W0 hW0
  subst hv
  rw [← hW0]
  obtain ⟨g, hg⟩ : ∃ g, w.heap.size + 1 = g := ⟨_, rfl⟩
  rw [hg] at hA
  rw [hg]
  have HA := Lib.hid hA.1
  have HB := Lib.hid hA.2
  clear hA hg hW0
  refine wp_loop_rounds 5 ?_
  rw [rounds_succ]
  have d0 := HA.out.c0
  go_wp2_with fail
  refine (q0 _).mono ?_
  rintro e w1 ⟨rfl, hb⟩
  have HA1 := Lib.hid (HA.out.keep hb)
  have HB1 := Lib.hid (HB.out.trans (hb.mono HB.out.size))
  clear hb d0
  go_wp2_with fail
  rw [rounds_succ]
  have d1 := HA1.out.c1
  go_wp2_with fail
  refine (q1 _).mono ?_
  rintro e w2 ⟨rfl, hb⟩
  have HA2 := Lib.hid (HA1.out.keep hb)
  have HB2 := Lib.hid (HB1.out.trans (hb.mono HB1.out.size))
  clear hb d1
  go_wp2_with fail
  rw [rounds_succ]
  have d2 := HA2.out.c2
  go_wp2_with fail
  refine (q2 _).mono ?_
  rintro e w3 ⟨rfl, hb⟩
  have HA3 := Lib.hid (HA2.out.keep hb)
  have HB3 := Lib.hid (HB2.out.trans (hb.mono HB2.out.size))
  clear hb d2
  go_wp2_with fail
  rw [rounds_succ]
  have d3 := HA3.out.c3
  go_wp2_with fail
  refine (q3 _).mono ?_
  rintro e w4 ⟨rfl, hb⟩
  have HA4 := Lib.hid (HA3.out.keep hb)
  have HB4 := Lib.hid (HB3.out.trans (hb.mono HB3.out.size))
  clear hb d3
  go_wp2_with fail
  go_ret
  exact ⟨rfl, HB4.out⟩

theorem stands_5 (o : Bool) (W F T : Int) (rd wr : Bool) (K : Int) (lk : Bool) (w : World)
    (q0 : ∀ w, Calls Try.prog 43 #[reg o W F T rd wr K lk] w fun e w' => e = .returned (.bool true) ∧ Below w.heap.size w w')
    (q1 : ∀ w, Calls Try.prog 44 #[reg o W F T rd wr K lk] w fun e w' => e = .returned (.bool true) ∧ Below w.heap.size w w')
    (q2 : ∀ w, Calls Try.prog 45 #[reg o W F T rd wr K lk] w fun e w' => e = .returned (.bool true) ∧ Below w.heap.size w w')
    (q3 : ∀ w, Calls Try.prog 46 #[reg o W F T rd wr K lk] w fun e w' => e = .returned (.bool true) ∧ Below w.heap.size w w') :
    Calls Try.prog 37 #[reg o W F T rd wr K lk] w fun e w' => e = .returned (.bool true) ∧ Below w.heap.size w w' := by
  have hmf : ∀ (fn : Fn) (first cap : Array Value) (w : World), (Instr.makeFunc fn first cap).run Try.prog w = .ok (.func fn first cap) w := fun _ _ _ _ => rfl
  go_enter Try.func37, Try.ntmps37
  go_wp2_with fail
  obtain ⟨v, hv⟩ : ∃ v, v = reg o W F T rd wr K lk := ⟨_, rfl⟩
  obtain ⟨W0, hW0⟩ : ∃ X : World, X = (w.alloc (.cells #[.bool o, .int .i64 W, .int .u32 F, .int .u32 T, .bool rd, .bool wr, .int .i64 K, .bool lk] 44)).alloc (.cells #[.func (.func 43) #[v] #[], .func (.func 44) #[v] #[], .func (.func 45) #[v] #[], .func (.func 46) #[v] #[]] 30) := ⟨_, rfl⟩
  have hA := holds_new w v _ _ rfl W0 hW0
  subst hv
  rw [← hW0]
  obtain ⟨g, hg⟩ : ∃ g, w.heap.size + 1 = g := ⟨_, rfl⟩
  rw [hg] at hA
  rw [hg]
  have HA := Lib.hid hA.1
  have HB := Lib.hid hA.2
  clear hA hg hW0
  refine wp_loop_rounds 5 ?_
  rw [rounds_succ]
  have d0 := HA.out.c0
  go_wp2_with fail
  refine (q0 _).mono ?_
  rintro e w1 ⟨rfl, hb⟩
  have HA1 := Lib.hid (HA.out.keep hb)
  have HB1 := Lib.hid (HB.out.trans (hb.mono HB.out.size))
  clear hb d0
  go_wp2_with fail
  rw [rounds_succ]
  have d1 := HA1.out.c1
  go_wp2_with fail
  refine (q1 _).mono ?_
  rintro e w2 ⟨rfl, hb⟩
  have HA2 := Lib.hid (HA1.out.keep hb)
  have HB2 := Lib.hid (HB1.out.trans (hb.mono HB1.out.size))
  clear hb d1
  go_wp2_with fail
  rw [rounds_succ]
  have d2 := HA2.out.c2
  go_wp2_with fail
  refine (q2 _).mono ?_
  rintro e w3 ⟨rfl, hb⟩
  have HA3 := Lib.hid (HA2.out.keep hb)
  have HB3 := Lib.hid (HB2.out.trans (hb.mono HB2.out.size))
  clear hb d2
  go_wp2_with fail
  rw [rounds_succ]
  have d3 := HA3.out.c3
  go_wp2_with fail
  refine (q3 _).mono ?_
  rintro e w4 ⟨rfl, hb⟩
  have HA4 := Lib.hid (HA3.out.keep hb)
  have HB4 := Lib.hid (HB3.out.trans (hb.mono HB3.out.size))
  clear hb d3
  go_wp2_with fail
  rw [rounds_succ]
  go_wp2_with fail
  go_ret
  exact ⟨rfl, HB4.out⟩

theorem stands_any (o : Bool) (W F T : Int) (rd wr : Bool) (K : Int) (lk : Bool) (b : Bool) (w : World) (hb : standB o W F T K = b) :
    Calls Try.prog 37 #[reg o W F T rd wr K lk] w fun e w' => e = .returned (.bool b) ∧ Below w.heap.size w w' := by
  subst hb
  unfold standB
  cases o
  · exact stands_1 false W F T rd wr K lk w (fun w => on_any false W F T rd wr K lk w)
  cases h2 : wdB W
  · exact stands_2 true W F T rd wr K lk w (fun w => on_any true W F T rd wr K lk w) (fun w => ofWorld_any true W F T rd wr K lk _ w h2)
  cases h3 : Reach.rightB F T
  · exact stands_3 true W F T rd wr K lk w (fun w => on_any true W F T rd wr K lk w) (fun w => ofWorld_any true W F T rd wr K lk _ w h2) (fun w => reaches_any true W F T rd wr K lk _ w h3)
  cases h4 : rankB K
  · exact stands_4 true W F T rd wr K lk w (fun w => on_any true W F T rd wr K lk w) (fun w => ofWorld_any true W F T rd wr K lk _ w h2) (fun w => reaches_any true W F T rd wr K lk _ w h3) (fun w => ranked_any true W F T rd wr K lk _ w h4)
  · exact stands_5 true W F T rd wr K lk w (fun w => on_any true W F T rd wr K lk w) (fun w => ofWorld_any true W F T rd wr K lk _ w h2) (fun w => reaches_any true W F T rd wr K lk _ w h3) (fun w => ranked_any true W F T rd wr K lk _ w h4)

theorem right_none (o : Bool) (W F T : Int) (rd wr : Bool) (K : Int) (lk : Bool) (w : World)
    (N : ∀ w, Calls Try.prog 38 #[reg o W F T rd wr K lk] w fun e w' => e = .returned (.bool true) ∧ Below w.heap.size w w') :
    Calls Try.prog 25 #[reg o W F T rd wr K lk] w fun e w' => e = .returned (.bool true) ∧ Below w.heap.size w w' := by
  go_enter Try.func25, Try.ntmps25
  go_wp2_with fail
  refine (N _).mono ?_
  rintro e w1 ⟨rfl, hb⟩
  have Hb := Lib.hid (((Below.refl w.heap.size w).alloc (Nat.le_refl _) _).trans (hb.mono (by simp)))
  clear hb
  go_wp2_with fail
  go_ret
  exact ⟨rfl, Hb.out⟩
theorem right_some (o : Bool) (W F T : Int) (rd wr : Bool) (K : Int) (lk : Bool) (b : Bool) (w : World)
    (N : ∀ w, Calls Try.prog 38 #[reg o W F T rd wr K lk] w fun e w' => e = .returned (.bool false) ∧ Below w.heap.size w w')
    (S : ∀ w, Calls Try.prog 37 #[reg o W F T rd wr K lk] w fun e w' => e = .returned (.bool b) ∧ Below w.heap.size w w') :
    Calls Try.prog 25 #[reg o W F T rd wr K lk] w fun e w' => e = .returned (.bool b) ∧ Below w.heap.size w w' := by
  go_enter Try.func25, Try.ntmps25
  go_wp2_with fail
  refine (N _).mono ?_
  rintro e w1 ⟨rfl, hb⟩
  obtain ⟨k0, k1, k2, k3, k4, k5, k6, k7⟩ := (eight_new w o W F T rd wr K lk _).keep hb
  have Hb := Lib.hid (((Below.refl w.heap.size w).alloc (Nat.le_refl _) _).trans (hb.mono (by simp)))
  clear hb
  go_wp2_with fail
  refine (S _).mono ?_
  rintro e w2 ⟨rfl, hb⟩
  clear k0 k1 k2 k3 k4 k5 k6 k7
  have Hb2 := Lib.hid (Hb.out.trans (hb.mono Hb.out.size))
  clear hb
  go_wp2_with fail
  go_ret
  exact ⟨rfl, Hb2.out⟩
theorem right_any (o : Bool) (W F T : Int) (rd wr : Bool) (K : Int) (lk : Bool) (b : Bool) (w : World) (hb : regB o W F T rd wr K lk = b) :
    Calls Try.prog 25 #[reg o W F T rd wr K lk] w fun e w' => e = .returned (.bool b) ∧ Below w.heap.size w w' := by
  subst hb
  unfold regB
  cases hz : zeroB o W F T rd wr K lk
  · exact right_some o W F T rd wr K lk _ w (fun w => none_any o W F T rd wr K lk _ w hz) (fun w => stands_any o W F T rd wr K lk _ w rfl)
  · exact right_none o W F T rd wr K lk w (fun w => none_any o W F T rd wr K lk _ w hz)
theorem Right_any (o : Bool) (W F T : Int) (rd wr : Bool) (K : Int) (lk : Bool) (b : Bool) (w : World) (hb : regB o W F T rd wr K lk = b) :
    Calls Try.prog 12 #[reg o W F T rd wr K lk] w fun e w' => e = .returned (.bool b) ∧ Below w.heap.size w w' := by
  have R := fun w => right_any o W F T rd wr K lk b w hb
  clear hb
  go_enter Try.func12, Try.ntmps12
  go_wp2_with fail
  refine (R _).mono ?_
  rintro e w1 ⟨rfl, hb⟩
  have Hb := Lib.hid (((Below.refl w.heap.size w).alloc (Nat.le_refl _) _).trans (hb.mono (by simp)))
  clear hb
  go_wp2_with fail
  go_ret
  exact ⟨rfl, Hb.out⟩

theorem ron_w0 (W F T : Int) (rd wr : Bool) (K : Int) (lk : Bool) (w : World) (h : W < 0) :
    Calls Try.prog 18 #[reg true W F T rd wr K lk] w fun e w' => e = .returned (.bool false) ∧ Below w.heap.size w w' := by
  go_enter Try.func18, Try.ntmps18
  go_wp2_with fail
  go_ret
  exact ⟨rfl, (Below.refl _ _).alloc (Nat.le_refl _) _⟩

theorem ron_w8 (W F T : Int) (rd wr : Bool) (K : Int) (lk : Bool) (w : World) (h : 0 ≤ W) (h2 : 8 ≤ W) :
    Calls Try.prog 18 #[reg true W F T rd wr K lk] w fun e w' => e = .returned (.bool false) ∧ Below w.heap.size w w' := by
  go_enter Try.func18, Try.ntmps18
  go_wp2_with fail
  go_ret
  exact ⟨rfl, (Below.refl _ _).alloc (Nat.le_refl _) _⟩

theorem ron_re (W F T : Int) (rd wr : Bool) (K : Int) (lk : Bool) (w : World) (h : 0 ≤ W) (h2 : W < 8) (Q : ∀ w, Calls Try.prog 31 #[.agg #[.int .u32 F, .int .u32 T]] w fun e w' => e = .returned (.bool false) ∧ Below w.heap.size w w') :
    Calls Try.prog 18 #[reg true W F T rd wr K lk] w fun e w' => e = .returned (.bool false) ∧ Below w.heap.size w w' := by
  go_enter Try.func18, Try.ntmps18
  go_wp2_with fail
  refine (Q _).mono ?_
  rintro e w1 ⟨rfl, hb⟩
  obtain ⟨k0, k1, k2, k3, k4, k5, k6, k7⟩ := (eight_new w true W F T rd wr K lk _).keep hb
  have Hb := Lib.hid (((Below.refl w.heap.size w).alloc (Nat.le_refl _) _).trans (hb.mono (by simp)))
  clear hb
  go_wp2_with fail
  go_ret
  exact ⟨rfl, Hb.out⟩

theorem ron_k0 (W F T : Int) (rd wr : Bool) (K : Int) (lk : Bool) (w : World) (h : 0 ≤ W) (h2 : W < 8) (Q : ∀ w, Calls Try.prog 31 #[.agg #[.int .u32 F, .int .u32 T]] w fun e w' => e = .returned (.bool true) ∧ Below w.heap.size w w') (h3 : K < 0) :
    Calls Try.prog 18 #[reg true W F T rd wr K lk] w fun e w' => e = .returned (.bool false) ∧ Below w.heap.size w w' := by
  go_enter Try.func18, Try.ntmps18
  go_wp2_with fail
  refine (Q _).mono ?_
  rintro e w1 ⟨rfl, hb⟩
  obtain ⟨k0, k1, k2, k3, k4, k5, k6, k7⟩ := (eight_new w true W F T rd wr K lk _).keep hb
  have Hb := Lib.hid (((Below.refl w.heap.size w).alloc (Nat.le_refl _) _).trans (hb.mono (by simp)))
  clear hb
  go_wp2_with fail
  go_ret
  exact ⟨rfl, Hb.out⟩

theorem ron_k9 (W F T : Int) (rd wr : Bool) (K : Int) (lk : Bool) (w : World) (h : 0 ≤ W) (h2 : W < 8) (Q : ∀ w, Calls Try.prog 31 #[.agg #[.int .u32 F, .int .u32 T]] w fun e w' => e = .returned (.bool true) ∧ Below w.heap.size w w') (h3 : 0 ≤ K) (h4 : ¬ K ≤ 255) :
    Calls Try.prog 18 #[reg true W F T rd wr K lk] w fun e w' => e = .returned (.bool false) ∧ Below w.heap.size w w' := by
  go_enter Try.func18, Try.ntmps18
  go_wp2_with fail
  refine (Q _).mono ?_
  rintro e w1 ⟨rfl, hb⟩
  obtain ⟨k0, k1, k2, k3, k4, k5, k6, k7⟩ := (eight_new w true W F T rd wr K lk _).keep hb
  have Hb := Lib.hid (((Below.refl w.heap.size w).alloc (Nat.le_refl _) _).trans (hb.mono (by simp)))
  clear hb
  go_wp2_with fail
  go_ret
  exact ⟨ret_bool (decide_eq_false (by omega)), Hb.out⟩

theorem ron_ok (W F T : Int) (rd wr : Bool) (K : Int) (lk : Bool) (w : World) (h : 0 ≤ W) (h2 : W < 8) (Q : ∀ w, Calls Try.prog 31 #[.agg #[.int .u32 F, .int .u32 T]] w fun e w' => e = .returned (.bool true) ∧ Below w.heap.size w w') (h3 : 0 ≤ K) (h4 : K ≤ 255) :
    Calls Try.prog 18 #[reg true W F T rd wr K lk] w fun e w' => e = .returned (.bool true) ∧ Below w.heap.size w w' := by
  go_enter Try.func18, Try.ntmps18
  go_wp2_with fail
  refine (Q _).mono ?_
  rintro e w1 ⟨rfl, hb⟩
  obtain ⟨k0, k1, k2, k3, k4, k5, k6, k7⟩ := (eight_new w true W F T rd wr K lk _).keep hb
  have Hb := Lib.hid (((Below.refl w.heap.size w).alloc (Nat.le_refl _) _).trans (hb.mono (by simp)))
  clear hb
  go_wp2_with fail
  go_ret
  exact ⟨rfl, Hb.out⟩

theorem rRight_any (o : Bool) (W F T : Int) (rd wr : Bool) (K : Int) (lk : Bool) (b : Bool) (w : World) (hb : regB o W F T rd wr K lk = b) :
    Calls Try.prog 18 #[reg o W F T rd wr K lk] w fun e w' => e = .returned (.bool b) ∧ Below w.heap.size w w' := by
  cases o
  · exact rzero_any W F T rd wr K lk b w (by rw [← hb, reg_off])
  · rw [reg_on] at hb
    subst hb
    by_cases h : W < 0
    · have e : standB true W F T K = false := by unfold standB wdB; rw [decide_eq_false (by omega)]; rfl
      rw [e]; exact ron_w0 W F T rd wr K lk w h
    by_cases h2 : 8 ≤ W
    · have e : standB true W F T K = false := by unfold standB wdB; rw [decide_eq_false (by omega)]; rfl
      rw [e]; exact ron_w8 W F T rd wr K lk w (by omega) h2
    have ew : wdB W = true := decide_eq_true (by omega)
    cases hr : Reach.rightB F T
    · have e : standB true W F T K = false := by unfold standB; rw [ew, hr]; rfl
      rw [e]; exact ron_re W F T rd wr K lk w (by omega) (by omega) (fun w => Reach.rright_val F T _ w hr)
    by_cases h3 : K < 0
    · have e : standB true W F T K = false := by unfold standB rankB; rw [ew, hr, decide_eq_false (by omega)]; rfl
      rw [e]; exact ron_k0 W F T rd wr K lk w (by omega) (by omega) (fun w => Reach.rright_val F T _ w hr) h3
    by_cases h4 : 255 < K
    · have e : standB true W F T K = false := by unfold standB rankB; rw [ew, hr, decide_eq_false (by omega)]; rfl
      rw [e]; exact ron_k9 W F T rd wr K lk w (by omega) (by omega) (fun w => Reach.rright_val F T _ w hr) (by omega) (by omega)
    · have e : standB true W F T K = true := by unfold standB rankB; rw [ew, hr, decide_eq_true (by omega)]; rfl
      rw [e]; exact ron_ok W F T rd wr K lk w (by omega) (by omega) (fun w => Reach.rright_val F T _ w hr) (by omega) (by omega)
end Go.Proofs.Ytploggfaihfeeaa.Region
