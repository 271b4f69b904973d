/- Contracts: whether an access is right, both ways. -/
import Derived.Test.YtploggfaihfeeaaCb
namespace Go.Proofs.Ytploggfaihfeeaa.Access
open Go.RowKit
set_option linter.unusedVariables false

/-- The row of what must hold. -/
structure Asks (w : World) (g : Nat) (v : Value) : Prop where
  c0 : w.cell? ⟨g, 0, none⟩ = some (.func (.func 56) #[v] #[])
  c1 : w.cell? ⟨g, 1, none⟩ = some (.func (.func 57) #[v] #[])
  c2 : w.cell? ⟨g, 2, none⟩ = some (.func (.func 58) #[v] #[])
  c3 : w.cell? ⟨g, 3, none⟩ = some (.func (.func 59) #[v] #[])
theorem Asks.keep {w w' : World} {g : Nat} {v : Value} (h : Asks w g v) (hb : Below w.heap.size w w') : Asks w' g v := ⟨cell_keep hb h.c0, cell_keep hb h.c1, cell_keep hb h.c2, cell_keep hb h.c3⟩
theorem asks_new (w : World) (v : Value) (o : Obj) (g : Nat) (hg : w.heap.size + 1 = g) (W0 : World)
    (hW : W0 = (w.alloc o).alloc (.cells #[.func (.func 56) #[v] #[], .func (.func 57) #[v] #[], .func (.func 58) #[v] #[], .func (.func 59) #[v] #[]] 30)) :
    Asks W0 g v ∧ Below w.heap.size w W0 := by
  subst hW
  have e : (w.alloc o).heap.size = g := by simpa using hg
  subst e
  exact ⟨⟨World.cell?_alloc_at _ _ _ 0 rfl, World.cell?_alloc_at _ _ _ 1 rfl, World.cell?_alloc_at _ _ _ 2 rfl, World.cell?_alloc_at _ _ _ 3 rfl⟩, ((Below.refl _ _).alloc (Nat.le_refl _) _).alloc (by simp) _⟩

theorem right_1 (W : Int) (r : Bool) (A S D : Int) (w : World)
    (q0 : ∀ w, Calls Try.prog 56 #[acc W r A S D] w fun e w' => e = .returned (.bool false) ∧ Below w.heap.size w w') :
    Calls Try.prog 52 #[acc W r A S D] w fun e w' => e = .returned (.bool false) ∧ Below w.heap.size w w' := by
  have hmf : ∀ (fn : Fn) (first cap : Array Value) (w : World), (Instr.makeFunc fn first cap).run Try.prog w = .ok (.func fn first cap) w := fun _ _ _ _ => rfl
  go_enter Try.func52, Try.ntmps52
  go_wp2_with fail
  obtain ⟨v, hv⟩ : ∃ v, v = acc W r A S D := ⟨_, rfl⟩
  obtain ⟨W0, hW0⟩ : ∃ X : World, X = (w.alloc (.cells #[.int .i64 W, .bool r, .int .u32 A, .int .i64 S, .int .u32 D] 62)).alloc (.cells #[.func (.func 56) #[v] #[], .func (.func 57) #[v] #[], .func (.func 58) #[v] #[], .func (.func 59) #[v] #[]] 30) := ⟨_, rfl⟩
  have hA := asks_new w v _ _ rfl W0 hW0
  subst hv
  rw [← hW0]
  obtain ⟨g, hg⟩ : ∃ g, w.heap.size + 1 = g := ⟨_, rfl⟩
  rw [hg] at hA
  rw [hg]
  have HA := Lib.hid hA.1
  have HB := Lib.hid hA.2
  clear hA hg hW0
  refine wp_loop_rounds 5 ?_
  rw [rounds_succ]
  have d0 := HA.out.c0
  go_wp2_with fail
  refine (q0 _).mono ?_
  rintro e w1 ⟨rfl, hb⟩
  have HA1 := Lib.hid (HA.out.keep hb)
  have HB1 := Lib.hid (HB.out.trans (hb.mono HB.out.size))
  clear hb d0
  go_wp2_with fail
  go_ret
  exact ⟨rfl, HB1.out⟩

theorem right_2 (W : Int) (r : Bool) (A S D : Int) (w : World)
    (q0 : ∀ w, Calls Try.prog 56 #[acc W r A S D] w fun e w' => e = .returned (.bool true) ∧ Below w.heap.size w w')
    (q1 : ∀ w, Calls Try.prog 57 #[acc W r A S D] w fun e w' => e = .returned (.bool false) ∧ Below w.heap.size w w') :
    Calls Try.prog 52 #[acc W r A S D] w fun e w' => e = .returned (.bool false) ∧ Below w.heap.size w w' := by
  have hmf : ∀ (fn : Fn) (first cap : Array Value) (w : World), (Instr.makeFunc fn first cap).run Try.prog w = .ok (.func fn first cap) w := fun _ _ _ _ => rfl
  go_enter Try.func52, Try.ntmps52
  go_wp2_with fail
  obtain ⟨v, hv⟩ : ∃ v, v = acc W r A S D := ⟨_, rfl⟩
  obtain ⟨W0, hW0⟩ : ∃ X : World, X = (w.alloc (.cells #[.int .i64 W, .bool r, .int .u32 A, .int .i64 S, .int .u32 D] 62)).alloc (.cells #[.func (.func 56) #[v] #[], .func (.func 57) #[v] #[], .func (.func 58) #[v] #[], .func (.func 59) #[v] #[]] 30) := ⟨_, rfl⟩
  have hA := asks_new w v _ _ rfl W0 hW0
  subst hv
  rw [← hW0]
  obtain ⟨g, hg⟩ : ∃ g, w.heap.size + 1 = g := ⟨_, rfl⟩
  rw [hg] at hA
  rw [hg]
  have HA := Lib.hid hA.1
  have HB := Lib.hid hA.2
  clear hA hg hW0
  refine wp_loop_rounds 5 ?_
  rw [rounds_succ]
  have d0 := HA.out.c0
  go_wp2_with fail
  refine (q0 _).mono ?_
  rintro e w1 ⟨rfl, hb⟩
  have HA1 := Lib.hid (HA.out.keep hb)
  have HB1 := Lib.hid (HB.out.trans (hb.mono HB.out.size))
  clear hb d0
  go_wp2_with fail
  rw [rounds_succ]
  have d1 := HA1.out.c1
  go_wp2_with fail
  refine (q1 _).mono ?_
  rintro e w2 ⟨rfl, hb⟩
  have HA2 := Lib.hid (HA1.out.keep hb)
  have HB2 := Lib.hid (HB1.out.trans (hb.mono HB1.out.size))
  clear hb d1
  go_wp2_with fail
  go_ret
  exact ⟨rfl, HB2.out⟩

theorem right_3 (W : Int) (r : Bool) (A S D : Int) (w : World)
    (q0 : ∀ w, Calls Try.prog 56 #[acc W r A S D] w fun e w' => e = .returned (.bool true) ∧ Below w.heap.size w w')
    (q1 : ∀ w, Calls Try.prog 57 #[acc W r A S D] w fun e w' => e = .returned (.bool true) ∧ Below w.heap.size w w')
    (q2 : ∀ w, Calls Try.prog 58 #[acc W r A S D] w fun e w' => e = .returned (.bool false) ∧ Below w.heap.size w w') :
    Calls Try.prog 52 #[acc W r A S D] w fun e w' => e = .returned (.bool false) ∧ Below w.heap.size w w' := by
  have hmf : ∀ (fn : Fn) (first cap : Array Value) (w : World), (Instr.makeFunc fn first cap).run Try.prog w = .ok (.func fn first cap) w := fun _ _ _ _ => rfl
  go_enter Try.func52, Try.ntmps52
  go_wp2_with fail
  obtain ⟨v, hv⟩ : ∃ v, v = acc W r A S D := ⟨_, rfl⟩
  obtain ⟨W0, hW0⟩ : ∃ X : World, X = (w.alloc (.cells #[.int .i64 W, .bool r, .int .u32 A, .int .i64 S, .int .u32 D] 62)).alloc (.cells #[.func (.func 56) #[v] #[], .func (.func 57) #[v] #[], .func (.func 58) #[v] #[], .func (.func 59) #[v] #[]] 30) := ⟨_, rfl⟩
  have hA := asks_new w v _ _ rfl W0 hW0
  subst hv
  rw [← hW0]
  obtain ⟨g, hg⟩ : ∃ g, w.heap.size + 1 = g := ⟨_, rfl⟩
  rw [hg] at hA
  rw [hg]
  have HA := Lib.hid hA.1
  have HB := Lib.hid hA.2
  clear hA hg hW0
  refine wp_loop_rounds 5 ?_
  rw [rounds_succ]
  have d0 := HA.out.c0
  go_wp2_with fail
  refine (q0 _).mono ?_
  rintro e w1 ⟨rfl, hb⟩
  have HA1 := Lib.hid (HA.out.keep hb)
  have HB1 := Lib.hid (HB.out.trans (hb.mono HB.out.size))
  clear hb d0
  go_wp2_with fail
  rw [rounds_succ]
  have d1 := HA1.out.c1
  go_wp2_with fail
  refine (q1 _).mono ?_
  rintro e w2 ⟨rfl, hb⟩
  have HA2 := Lib.hid (HA1.out.keep hb)
  have HB2 := Lib.hid (HB1.out.trans (hb.mono HB1.out.size))
  clear hb d1
  go_wp2_with fail
  rw [rounds_succ]
  have d2 := HA2.out.c2
  go_wp2_with fail
  refine (q2 _).mono ?_
  rintro e w3 ⟨rfl, hb⟩
  have HA3 := Lib.hid (HA2.out.keep hb)
  have HB3 := Lib.hid (HB2.out.trans (hb.mono HB2.out.size))
  clear hb d2
  go_wp2_with fail
  go_ret
  exact ⟨rfl, HB3.out⟩

theorem right_4 (W : Int) (r : Bool) (A S D : Int) (w : World)
    (q0 : ∀ w, Calls Try.prog 56 #[acc W r A S D] w fun e w' => e = .returned (.bool true) ∧ Below w.heap.size w w')
    (q1 : ∀ w, Calls Try.prog 57 #[acc W r A S D] w fun e w' => e = .returned (.bool true) ∧ Below w.heap.size w w')
    (q2 : ∀ w, Calls Try.prog 58 #[acc W r A S D] w fun e w' => e = .returned (.bool true) ∧ Below w.heap.size w w')
    (q3 : ∀ w, Calls Try.prog 59 #[acc W r A S D] w fun e w' => e = .returned (.bool false) ∧ Below w.heap.size w w') :
    Calls Try.prog 52 #[acc W r A S D] w fun e w' => e = .returned (.bool false) ∧ Below w.heap.size w w' := by
  have hmf : ∀ (fn : Fn) (first cap : Array Value) (w : World), (Instr.makeFunc fn first cap).run Try.prog w = .ok (.func fn first cap) w := fun _ _ _ _ => rfl
  go_enter Try.func52, Try.ntmps52
  go_wp2_with fail
  obtain ⟨v, hv⟩ : ∃ v, v = acc W r A S D := ⟨_, rfl⟩
  obtain ⟨W0, hW0⟩ : ∃ X : World, X = (w.alloc (.cells #[.int .i64 W, .bool r, .int .u32 A, .int .i64 S, .int .u32 D] 62)).alloc (.cells #[.func (.func 56) #[v] #[], .func (.func 57) #[v] #[], .func (.func 58) #[v] #[], .func (.func 59) #[v] #[]] 30) := ⟨_, rfl⟩
  have hA := asks_new w v _ _ rfl W0 hW0
  subst hv
  rw [← hW0]
  obtain ⟨g, hg⟩ : ∃ g, w.heap.size + 1 = g := ⟨_, rfl⟩
  rw [hg] at hA
  rw [hg]
  have HA := Lib.hid hA.1
  have HB := Lib.hid hA.2
  clear hA hg hW0
  refine wp_loop_rounds 5 ?_
  rw [rounds_succ]
  have d0 := HA.out.c0
  go_wp2_with fail
  refine (q0 _).mono ?_
  rintro e w1 ⟨rfl, hb⟩
  have HA1 := Lib.hid (HA.out.keep hb)
  have HB1 := Lib.hid (HB.out.trans (hb.mono HB.out.size))
  clear hb d0
  go_wp2_with fail
  rw [rounds_succ]
  have d1 := HA1.out.c1
  go_wp2_with fail
  refine (q1 _).mono ?_
  rintro e w2 ⟨rfl, hb⟩
  have HA2 := Lib.hid (HA1.out.keep hb)
  have HB2 := Lib.hid (HB1.out.trans (hb.mono HB1.out.size))
  clear hb d1
  go_wp2_with fail
  rw [rounds_succ]
  have d2 := HA2.out.c2
  go_wp2_with fail
  refine (q2 _).mono ?_
  rintro e w3 ⟨rfl, hb⟩
  have HA3 := Lib.hid (HA2.out.keep hb)
  have HB3 := Lib.hid (HB2.out.trans (hb.mono HB2.out.size))
  clear hb d2
  go_wp2_with fail
  rw [rounds_succ]
  have d3 := HA3.out.c3
  go_wp2_with fail
  refine (q3 _).mono ?_
  rintro e w4 ⟨rfl, hb⟩
  have HA4 := Lib.hid (HA3.out.keep hb)
  have HB4 := Lib.hid (HB3.out.trans (hb.mono HB3.out.size))
  clear hb d3
  go_wp2_with fail
  go_ret
  exact ⟨rfl, HB4.out⟩

theorem right_5 (W : Int) (r : Bool) (A S D : Int) (w : World)
    (q0 : ∀ w, Calls Try.prog 56 #[acc W r A S D] w fun e w' => e = .returned (.bool true) ∧ Below w.heap.size w w')
    (q1 : ∀ w, Calls Try.prog 57 #[acc W r A S D] w fun e w' => e = .returned (.bool true) ∧ Below w.heap.size w w')
    (q2 : ∀ w, Calls Try.prog 58 #[acc W r A S D] w fun e w' => e = .returned (.bool true) ∧ Below w.heap.size w w')
    (q3 : ∀ w, Calls Try.prog 59 #[acc W r A S D] w fun e w' => e = .returned (.bool true) ∧ Below w.heap.size w w') :
    Calls Try.prog 52 #[acc W r A S D] w fun e w' => e = .returned (.bool true) ∧ Below w.heap.size w w' := by
  have hmf : ∀ (fn : Fn) (first cap : Array Value) (w : World), (Instr.makeFunc fn first cap).run Try.prog w = .ok (.func fn first cap) w := fun _ _ _ _ => rfl
  go_enter Try.func52, Try.ntmps52
  go_wp2_with fail
  obtain ⟨v, hv⟩ : ∃ v, v = acc W r A S D := ⟨_, rfl⟩
  obtain ⟨W0, hW0⟩ : ∃ X : World, X = (w.alloc (.cells #[.int .i64 W, .bool r, .int .u32 A, .int .i64 S, .int .u32 D] 62)).alloc (.cells #[.func (.func 56) #[v] #[], .func (.func 57) #[v] #[], .func (.func 58) #[v] #[], .func (.func 59) #[v] #[]] 30) := ⟨_, rfl⟩
  have hA := asks_new w v _ _ rfl W0 hW0
  subst hv
  rw [← hW0]
  obtain ⟨g, hg⟩ : ∃ g, w.heap.size + 1 = g := ⟨_, rfl⟩
  rw [hg] at hA
  rw [hg]
  have HA := Lib.hid hA.1
  have HB := Lib.hid hA.2
  clear hA hg hW0
  refine wp_loop_rounds 5 ?_
  rw [rounds_succ]
  have d0 := HA.out.c0
  go_wp2_with fail
  refine (q0 _).mono ?_
  rintro e w1 ⟨rfl, hb⟩
  have HA1 := Lib.hid (HA.out.keep hb)
  have HB1 := Lib.hid (HB.out.trans (hb.mono HB.out.size))
  clear hb d0
  go_wp2_with fail
  rw [rounds_succ]
  have d1 := HA1.out.c1
  go_wp2_with fail
  refine (q1 _).mono ?_
  rintro e w2 ⟨rfl, hb⟩
  have HA2 := Lib.hid (HA1.out.keep hb)
  have HB2 := Lib.hid (HB1.out.trans (hb.mono HB1.out.size))
  clear hb d1
  go_wp2_with fail
  rw [rounds_succ]
  have d2 := HA2.out.c2
  go_wp2_with fail
  refine (q2 _).mono ?_
  rintro e w3 ⟨rfl, hb⟩
  have HA3 := Lib.hid (HA2.out.keep hb)
  have HB3 := Lib.hid (HB2.out.trans (hb.mono HB2.out.size))
  clear hb d2
  go_wp2_with fail
  rw [rounds_succ]
  have d3 := HA3.out.c3
  go_wp2_with fail
  refine (q3 _).mono ?_
  rintro e w4 ⟨rfl, hb⟩
  have HA4 := Lib.hid (HA3.out.keep hb)
  have HB4 := Lib.hid (HB3.out.trans (hb.mono HB3.out.size))
  clear hb d3
  go_wp2_with fail
  rw [rounds_succ]
  go_wp2_with fail
  go_ret
  exact ⟨rfl, HB4.out⟩

theorem right_any (W : Int) (r : Bool) (A S D : Int) (b : Bool) (w : World) (hA : 0 ≤ A) (hA' : A < 4294967296) (hD : 0 ≤ D) (hD' : D < 4294967296) (hb : rightB W r A S D = b) :
    Calls Try.prog 52 #[acc W r A S D] w fun e w' => e = .returned (.bool b) ∧ Below w.heap.size w w' := by
  subst hb
  unfold rightB
  cases h1 : wdB W
  · exact right_1 W r A S D w (fun w => ofWorld_any W r A S D _ w h1)
  cases h2 : Lane.alB A S
  · exact right_2 W r A S D w (fun w => ofWorld_any W r A S D _ w h1) (fun w => raligned_any W r A S D _ w hA hA' h2)
  cases h3 : fitB D S
  · exact right_3 W r A S D w (fun w => ofWorld_any W r A S D _ w h1) (fun w => raligned_any W r A S D _ w hA hA' h2) (fun w => fits_any W r A S D _ w hD hD' h3)
  cases h4 : silB r D
  · exact right_4 W r A S D w (fun w => ofWorld_any W r A S D _ w h1) (fun w => raligned_any W r A S D _ w hA hA' h2) (fun w => fits_any W r A S D _ w hD hD' h3) (fun w => silent_any W r A S D _ w h4)
  · exact right_5 W r A S D w (fun w => ofWorld_any W r A S D _ w h1) (fun w => raligned_any W r A S D _ w hA hA' h2) (fun w => fits_any W r A S D _ w hD hD' h3) (fun w => silent_any W r A S D _ w h4)

theorem Right_any (W : Int) (r : Bool) (A S D : Int) (b : Bool) (w : World) (hA : 0 ≤ A) (hA' : A < 4294967296) (hD : 0 ≤ D) (hD' : D < 4294967296) (hb : rightB W r A S D = b) :
    Calls Try.prog 47 #[acc W r A S D] w fun e w' => e = .returned (.bool b) ∧ Below w.heap.size w w' := by
  have R := fun w => right_any W r A S D b w hA hA' hD hD' hb
  clear hb
  go_enter Try.func47, Try.ntmps47
  go_wp2_with fail
  refine (R _).mono ?_
  rintro e w1 ⟨rfl, hb⟩
  have Hb := Lib.hid (((Below.refl w.heap.size w).alloc (Nat.le_refl _) _).trans (hb.mono (by simp)))
  clear hb
  go_wp2_with fail
  go_ret
  exact ⟨rfl, Hb.out⟩
end Go.Proofs.Ytploggfaihfeeaa.Access
