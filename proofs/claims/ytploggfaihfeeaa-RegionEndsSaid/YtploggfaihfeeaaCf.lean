/- Contracts: the reach of an access, both ways. -/
import Derived.Test.YtploggfaihfeeaaCe
import Derived.Test.YtploggfaihfeeaaRta
namespace Go.Proofs.Ytploggfaihfeeaa.Access
open Go.RowKit
set_option linter.unusedVariables false

/-- The ends of what is told of a reach. -/
def reF (b : Bool) (A : Int) : Int := if b then A else 0
def reT (b : Bool) (A S : Int) : Int := if b then A + S - 1 else 0
theorem right_top {W : Int} {r : Bool} {A S D : Int} (h : rightB W r A S D = true) (h1 : A < 4294967296) : A + S ≤ 4294967296 := by
  obtain ⟨_, _, hs, ha, _⟩ := right_parts h
  rcases hs with rfl | rfl | rfl <;> omega
theorem of_right {W : Int} {r : Bool} {A S D : Int} (h : rightB W r A S D = true) (h0 : 0 ≤ A) (h1 : A < 4294967296) :
    Reach.ofF A S = reF true A ∧ Reach.ofT A S = reT true A S ∧ Reach.ofB A S = true ∧ -9223372036854775808 ≤ S ∧ S ≤ 9223372036854775807 := by
  have ht := right_top h h1
  obtain ⟨_, _, hs, _⟩ := right_parts h
  have e : 1 ≤ S ∧ A + S ≤ 4294967296 := by omega
  exact ⟨if_pos e, if_pos e, decide_eq_true e, by omega, by omega⟩

theorem Reach_no (W : Int) (r : Bool) (A S D : Int) (w : World)
    (R : ∀ w, Calls Try.prog 47 #[acc W r A S D] w fun e w' => e = .returned (.bool false) ∧ Below w.heap.size w w') :
    Calls Try.prog 39 #[acc W r A S D] w fun e w' => e = .returned (.tuple #[.agg #[.int .u32 0, .int .u32 0], .bool false]) ∧ Below w.heap.size w w' := by
  go_enter Try.func39, Try.ntmps39
  go_wp2_with fail
  refine (R _).mono ?_
  rintro e w1 ⟨rfl, hb⟩
  obtain ⟨hc, hf⟩ := Reach.bcell hb
  have Hb := Lib.hid ((((Below.refl w.heap.size w).alloc (Nat.le_refl _) _).alloc (by simp) _).trans (hb.mono (by simp; omega)))
  clear hb
  go_wp2_with fail
  refine bodyPost_ret (v := .tuple #[.agg #[.int .u32 0, .int .u32 0], .bool false]) ?_ rfl ⟨rfl, (Hb.out.setCell (by simp) _).setCell (by simp) _⟩
  have h0 := hc (w.heap.size + 1) 0 (by simp)
  have h1 := hc (w.heap.size + 1) 1 (by simp)
  simp [results, Try.results39, go_sem, h0, h1]
theorem Reach_yes (W : Int) (r : Bool) (A S D f t : Int) (b : Bool) (w : World)
    (R : ∀ w, Calls Try.prog 47 #[acc W r A S D] w fun e w' => e = .returned (.bool true) ∧ Below w.heap.size w w')
    (O : ∀ w, Calls Try.prog 48 #[.int .u32 A, .int .i64 S] w fun e w' => e = .returned (.tuple #[.agg #[.int .u32 f, .int .u32 t], .bool b]) ∧ Below w.heap.size w w') :
    Calls Try.prog 39 #[acc W r A S D] w fun e w' => e = .returned (.tuple #[.agg #[.int .u32 f, .int .u32 t], .bool b]) ∧ Below w.heap.size w w' := by
  go_enter Try.func39, Try.ntmps39
  go_wp2_with fail
  refine (R _).mono ?_
  rintro e w1 ⟨rfl, hb⟩
  obtain ⟨hc, hf⟩ := Reach.bcell hb
  obtain ⟨k0, k1, k2, k3, k4⟩ := ((five_new w W r A S D _).alloc _).keep hb
  have h0 := hc (w.heap.size + 1) 0 (by simp)
  have h1 := hc (w.heap.size + 1) 1 (by simp)
  have f0 := hf (w.heap.size + 1) 0 (by simp)
  have f1 := hf (w.heap.size + 1) 1 (by simp)
  simp [go_sem] at h0 h1 f0 f1
  have hsz := hb.size
  have Hb := Lib.hid ((((Below.refl w.heap.size w).alloc (Nat.le_refl _) _).alloc (by simp) _).trans (hb.mono (by simp; omega)))
  clear hb hc hf
  have hlt : w.heap.size + 1 < w1.heap.size := by simp at hsz; omega
  clear hsz
  go_wp2_with fail
  refine (O _).mono ?_
  rintro e w2 ⟨rfl, hb⟩
  obtain ⟨hc, hf⟩ := Reach.bcell hb
  have h0 := (hc (w.heap.size + 1) 0 hlt).trans h0
  have h1 := (hc (w.heap.size + 1) 1 hlt).trans h1
  have f0 := (hf (w.heap.size + 1) 0 hlt).trans f0
  have f1 := (hf (w.heap.size + 1) 1 hlt).trans f1
  have Hb2 := Lib.hid (Hb.out.trans (hb.mono Hb.out.size))
  clear hb hc hf k0 k1 k2 k3 k4
  go_wp2_with fail
  refine bodyPost_ret (v := .tuple #[.agg #[.int .u32 f, .int .u32 t], .bool b]) ?_ rfl ⟨rfl, (Hb2.out.setCell (by simp) _).setCell (by simp) _⟩
  simp [results, Try.results39, go_sem, h0, h1]
theorem Reach_any (W : Int) (r : Bool) (A S D f t : Int) (b : Bool) (w : World) (hA : 0 ≤ A) (hA' : A < 4294967296) (hD : 0 ≤ D) (hD' : D < 4294967296) (hb : rightB W r A S D = b) (hf : reF b A = f) (ht : reT b A S = t) :
    Calls Try.prog 39 #[acc W r A S D] w fun e w' => e = .returned (.tuple #[.agg #[.int .u32 f, .int .u32 t], .bool b]) ∧ Below w.heap.size w w' := by
  subst hf; subst ht
  cases b
  · exact Reach_no W r A S D w (fun w => Right_any W r A S D _ w hA hA' hD hD' hb)
  · obtain ⟨e1, e2, e3, s0, s1⟩ := of_right hb hA hA'
    refine Reach_yes W r A S D _ _ true w (fun w => Right_any W r A S D _ w hA hA' hD hD' hb) (fun w => ?_)
    have := Reach.Of_any A S w hA hA' s0 s1
    rw [e1, e2, e3] at this
    exact this

theorem rReach_no (W : Int) (r : Bool) (A S D : Int) (w : World)
    (R : ∀ w, Calls Try.prog 40 #[acc W r A S D] w fun e w' => e = .returned (.bool false) ∧ Below w.heap.size w w') :
    Calls Try.prog 32 #[acc W r A S D] w fun e w' => e = .returned (.tuple #[.agg #[.int .u32 0, .int .u32 0], .bool false]) ∧ Below w.heap.size w w' := by
  go_enter Try.func32, Try.ntmps32
  go_wp2_with fail
  refine (R _).mono ?_
  rintro e w1 ⟨rfl, hb⟩
  obtain ⟨hc, hf⟩ := Reach.bcell hb
  have Hb := Lib.hid ((((Below.refl w.heap.size w).alloc (Nat.le_refl _) _).alloc (by simp) _).trans (hb.mono (by simp; omega)))
  clear hb
  go_wp2_with fail
  refine bodyPost_ret (v := .tuple #[.agg #[.int .u32 0, .int .u32 0], .bool false]) ?_ rfl ⟨rfl, (Hb.out.setCell (by simp) _).setCell (by simp) _⟩
  have h0 := hc (w.heap.size + 1) 0 (by simp)
  have h1 := hc (w.heap.size + 1) 1 (by simp)
  simp [results, Try.results32, go_sem, h0, h1]
theorem rReach_yes (W : Int) (r : Bool) (A S D f t : Int) (b : Bool) (w : World)
    (R : ∀ w, Calls Try.prog 40 #[acc W r A S D] w fun e w' => e = .returned (.bool true) ∧ Below w.heap.size w w')
    (O : ∀ w, Calls Try.prog 41 #[.int .u32 A, .int .i64 S] w fun e w' => e = .returned (.tuple #[.agg #[.int .u32 f, .int .u32 t], .bool b]) ∧ Below w.heap.size w w') :
    Calls Try.prog 32 #[acc W r A S D] w fun e w' => e = .returned (.tuple #[.agg #[.int .u32 f, .int .u32 t], .bool b]) ∧ Below w.heap.size w w' := by
  go_enter Try.func32, Try.ntmps32
  go_wp2_with fail
  refine (R _).mono ?_
  rintro e w1 ⟨rfl, hb⟩
  obtain ⟨hc, hf⟩ := Reach.bcell hb
  obtain ⟨k0, k1, k2, k3, k4⟩ := ((five_new w W r A S D _).alloc _).keep hb
  have h0 := hc (w.heap.size + 1) 0 (by simp)
  have h1 := hc (w.heap.size + 1) 1 (by simp)
  have f0 := hf (w.heap.size + 1) 0 (by simp)
  have f1 := hf (w.heap.size + 1) 1 (by simp)
  simp [go_sem] at h0 h1 f0 f1
  have hsz := hb.size
  have Hb := Lib.hid ((((Below.refl w.heap.size w).alloc (Nat.le_refl _) _).alloc (by simp) _).trans (hb.mono (by simp; omega)))
  clear hb hc hf
  have hlt : w.heap.size + 1 < w1.heap.size := by simp at hsz; omega
  clear hsz
  go_wp2_with fail
  refine (O _).mono ?_
  rintro e w2 ⟨rfl, hb⟩
  obtain ⟨hc, hf⟩ := Reach.bcell hb
  have h0 := (hc (w.heap.size + 1) 0 hlt).trans h0
  have h1 := (hc (w.heap.size + 1) 1 hlt).trans h1
  have f0 := (hf (w.heap.size + 1) 0 hlt).trans f0
  have f1 := (hf (w.heap.size + 1) 1 hlt).trans f1
  have Hb2 := Lib.hid (Hb.out.trans (hb.mono Hb.out.size))
  clear hb hc hf k0 k1 k2 k3 k4
  go_wp2_with fail
  refine bodyPost_ret (v := .tuple #[.agg #[.int .u32 f, .int .u32 t], .bool b]) ?_ rfl ⟨rfl, (Hb2.out.setCell (by simp) _).setCell (by simp) _⟩
  simp [results, Try.results32, go_sem, h0, h1]
theorem rReach_any (W : Int) (r : Bool) (A S D f t : Int) (b : Bool) (w : World) (hA : 0 ≤ A) (hA' : A < 4294967296) (hD : 0 ≤ D) (hD' : D < 4294967296) (hb : rightB W r A S D = b) (hf : reF b A = f) (ht : reT b A S = t) :
    Calls Try.prog 32 #[acc W r A S D] w fun e w' => e = .returned (.tuple #[.agg #[.int .u32 f, .int .u32 t], .bool b]) ∧ Below w.heap.size w w' := by
  subst hf; subst ht
  cases b
  · exact rReach_no W r A S D w (fun w => rRight_any W r A S D _ w hA hA' hD hD' hb)
  · obtain ⟨e1, e2, e3, s0, s1⟩ := of_right hb hA hA'
    refine rReach_yes W r A S D _ _ true w (fun w => rRight_any W r A S D _ w hA hA' hD hD' hb) (fun w => ?_)
    have := Reach.rOf_any A S w hA hA' s0 s1
    rw [e1, e2, e3] at this
    exact this

end Go.Proofs.Ytploggfaihfeeaa.Access
