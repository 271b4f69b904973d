/- The walk of FifoDoes, for every input; how a slice of deeds is read. -/
import Derived.Test.YtekmenojaojeiaaGe
namespace Go.Proofs.Ytekmenojaojeiaa.Fifo5
open Go.RowKit Go.Maps Fifo FI
set_option linter.unusedVariables false

theorem does_long (x : Int) (a : Option Addr) (len cap : Nat) (w : World) (h : 300 < len) :
    Calls Try.prog 3 #[.int .i64 x, .slice a len cap] w fun e w' => e = .returned (.bool true) ∧ Below w.heap.size w w' := by
  have A := awake_any w
  have d1 : decide ((300 : Int) < (len : Int)) = true := decide_eq_true (by omega)
  go_enter Try.func3, Try.ntmps3
  go_wp2_with fail
  refine A.mono ?_
  rintro e w1 ⟨rfl, hb1⟩
  clear A
  go_wp2_with fail
  go_ret
  exact ⟨rfl, hb1⟩
theorem does_neg (x : Int) (a : Option Addr) (len cap : Nat) (w : World) (h : len ≤ 300) (hx : x < 0) :
    Calls Try.prog 3 #[.int .i64 x, .slice a len cap] w fun e w' => e = .returned (.bool true) ∧ Below w.heap.size w w' := by
  have N := New_neg x w hx
  have d1 : decide ((300 : Int) < (len : Int)) = false := decide_eq_false (by omega)
  have d2 : decide (x < 0) = true := decide_eq_true (by omega)
  go_enter Try.func3, Try.ntmps3
  go_wp2_with fail
  refine N.mono ?_
  rintro e w1 ⟨rfl, hb1⟩
  clear N
  have Hb1 := Lib.hid hb1
  clear hb1
  go_wp2_with fail
  refine (awake_any _).mono ?_
  rintro e w2 ⟨rfl, hb2⟩
  go_wp2_with fail
  go_ret
  exact ⟨rfl, Hb1.out.trans (hb2.mono Hb1.out.size)⟩
theorem does_walk (x : Int) (a : Option Addr) (len cap : Nat) (w : World) (hx : (Lit.int .i64 x).wf = true) (hrow : RowD w a len) :
    Calls Try.prog 3 #[.int .i64 x, .slice a len cap] w fun e w' => e = .returned (.bool true) ∧ Below w.heap.size w w' := by
  have hb := bound_i64 hx
  by_cases h : 300 < len
  · exact does_long x a len cap w h
  · by_cases h0 : x < 0
    · exact does_neg x a len cap w (by omega) h0
    · obtain ⟨R, rfl⟩ := Int.eq_ofNat_of_zero_le (show 0 ≤ x by omega)
      exact does_core R a len cap w (by omega) hrow (by omega)

theorem add_plain (b off n : Nat) : (⟨b, off, none⟩ : Addr).add n = ⟨b, off + n, none⟩ := by
  unfold Addr.add
  split <;> simp_all
theorem rowd_nil (w : World) (a : Option Addr) : RowD w a 0 := fun j hj => by omega
theorem rowd_of_pairs {H : Type} {enc : TypeId × Value → H} {P : Program} {w : World} {base : Nat} {spare : Nat → Bool} {held : Bool} {t : TypeId} {ad : Addr} {len m n : Nat} {V0 V1 : Nat → Value} {D0 D1 : Nat → DataW H} {P0 P1 : Nat → List MemPlace}
    (ht : P.underlying t = some (.int .i64)) (hlm : len ≤ m)
    (hi : ∀ i, i < m → w.cell? (ad.add (i * 2)) = some (V0 i) ∧ w.cell? (ad.add (i * 2 + 1)) = some (V1 i) ∧ DataW.trod enc P w base spare held n t [V0 i] = some (D0 i, P0 i) ∧ DataW.trod enc P w base spare held n t [V1 i] = some (D1 i, P1 i)) :
    RowD w (some ad) len := by
  intro j hj
  obtain ⟨h0, h1, t0, t1⟩ := hi j (by omega)
  obtain ⟨x, e0, _, _⟩ := DataW.trod_int ht t0
  obtain ⟨y, e1, _, _⟩ := DataW.trod_int ht t1
  simp at e0 e1
  rw [e0] at h0
  rw [e1] at h1
  obtain ⟨b, off, sp⟩ := ad
  cases sp with
  | some s =>
    exfalso
    have g := (hi 0 (by omega)).1
    rw [show (⟨b, off, some s⟩ : Addr).add (0 * 2) = ⟨b, off, some s⟩ from rfl] at g
    unfold World.cell? at g
    split at g
    · simp at g
    · cases g
  | none =>
    rw [add_plain] at h0 h1
    exact ⟨b, off, x, y, rfl, h0, by rw [Nat.add_assoc]; exact h1⟩
end Go.Proofs.Ytekmenojaojeiaa.Fifo5
