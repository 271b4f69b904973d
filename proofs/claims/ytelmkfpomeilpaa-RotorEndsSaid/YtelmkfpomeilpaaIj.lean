/- A rotor and the document's side by side. -/
import Derived.Test.YtelmkfpomeilpaaIh
import Derived.Test.YtelmkfpomeilpaaBa
namespace Go.Proofs.Ytelmkfpomeilpaa.Rotor
open Go.RowKit Go.Maps Fifo Orow Exact Ring
set_option linter.unusedVariables false

theorem below_onlyR {K : Nat → Prop} {B : Nat} {w w1 w2 : World} (h : Below B w w1) (ho : Only (fun j => ¬ K j) w1 w2) (hB : B ≤ w.heap.size) (hK : ∀ j, j < B → K j) : Below B w w2 :=
  h.trans (ho.below (Nat.le_trans hB h.size) (fun j hj => Nat.le_of_not_lt (fun e => hj (hK j e))))
/-- The rotor in block b and the document's in block r have s; none of their blocks is one of K. -/
def PairR (K : Nat → Prop) (w : World) (b r : Nat) (s : RS) : Prop :=
  ∃ O, Rot w b s O ∧ RefR w r s ∧ (∀ j, O j → ¬ K j ∧ j ≠ r) ∧ ¬ K r ∧ ∀ j, K j → j < w.heap.size
theorem PairR.keep {K : Nat → Prop} {w w' : World} {b r : Nat} {s : RS} (h : PairR K w b r s) (hb : Below w.heap.size w w') : PairR K w' b r s := by
  obtain ⟨O, h1, h2, h3, h4, h5⟩ := h
  exact ⟨O, h1.keep hb, h2.keep hb, h3, h4, fun j hj => Nat.lt_of_lt_of_le (h5 j hj) hb.size⟩
theorem PairR.ok {K : Nat → Prop} {w : World} {b r : Nat} {s : RS} (h : PairR K w b r s) : OkR s := by
  obtain ⟨O, h1, _⟩ := h
  exact h1.ok
/-- The rotor has u, the document's s. -/
def HalfR (K : Nat → Prop) (w : World) (b r : Nat) (u s : RS) (O : Nat → Prop) : Prop :=
  Rot w b u O ∧ RefR w r s ∧ (∀ j, O j → ¬ K j ∧ j ≠ r) ∧ ¬ K r ∧ ∀ j, K j → j < w.heap.size
theorem Write_half (K : Nat → Prop) (b r : Nat) (u s : RS) (O : Nat → Prop) (x v : Int) (w : World) (h1 : I64 x) (h2 : 0 ≤ v ∧ v < 4294967296) (h : HalfR K w b r u s O) :
    Calls Try.prog 17 #[.pointer (some ⟨b, 0, none⟩), .int .i64 x, .int .u32 v] w fun e w' => e = .returned (.tuple #[]) ∧ (RefR w' r s ∧ ¬ K r ∧ ∀ j, K j → j < w'.heap.size) ∧ Only (fun j => ¬ K j) w w' := by
  obtain ⟨a1, a2, a3, a4, a5⟩ := h
  refine (Write_any b u O x v w h1 h2 a1).mono ?_
  rintro e w' ⟨rfl, O', k1, k2, k3⟩
  exact ⟨rfl, ⟨a2.only k2 (fun e => (a3 r e).2 rfl), a4, fun j hj => Nat.lt_of_lt_of_le (a5 j hj) k2.size⟩, k2.mono (fun j _ o => (a3 j o).1)⟩
theorem Write_pair (K : Nat → Prop) (b r : Nat) (s : RS) (x v : Int) (w : World) (h1 : I64 x) (h2 : 0 ≤ v ∧ v < 4294967296) (h : PairR K w b r s) :
    Calls Try.prog 17 #[.pointer (some ⟨b, 0, none⟩), .int .i64 x, .int .u32 v] w fun e w' => e = .returned (.tuple #[]) ∧ ∃ O, RefR w' r s ∧ HalfR K w' b r (writeR s x v) s O ∧ Only (fun j => ¬ K j) w w' := by
  obtain ⟨O, a1, a2, a3, a4, a5⟩ := h
  have l1 := a1.lt
  refine (Write_any b s O x v w h1 h2 a1).mono ?_
  rintro e w' ⟨rfl, O', k1, k2, k3⟩
  have hR := a2.only k2 (fun e => (a3 r e).2 rfl)
  exact ⟨rfl, O', hR, ⟨k1, hR, fun j hj => (k3 j hj).elim (a3 j) (fun e => ⟨fun k => by have := a5 j k; omega, fun k => by have := a2.1.lt; omega⟩), a4, fun j hj => Nat.lt_of_lt_of_le (a5 j hj) k2.size⟩, k2.mono (fun j _ o => (a3 j o).1)⟩
theorem rWrite_half (K : Nat → Prop) (b r : Nat) (s s2 : RS) (O : Nat → Prop) (x v : Int) (w : World) (hs : writeR s x v = s2) (h2 : 0 ≤ v ∧ v < 4294967296) (h : HalfR K w b r s2 s O) :
    Calls Try.prog 18 #[.pointer (some ⟨r, 0, none⟩), .int .i64 x, .int .u32 v] w fun e w' => e = .returned (.tuple #[]) ∧ PairR K w' b r s2 ∧ Only (fun j => ¬ K j) w w' := by
  obtain ⟨a1, a2, a3, a4, a5⟩ := h
  subst hs
  refine (rWrite_any r s x v w h2 a2).mono ?_
  rintro e w' ⟨rfl, k1, k2⟩
  exact ⟨rfl, ⟨O, a1.only k2 (fun j hj e => (a3 j hj).2 e), k1, a3, a4, fun j hj => Nat.lt_of_lt_of_le (a5 j hj) k2.size⟩, k2.mono (fun j _ e => by have : j = r := e; rw [this]; exact a4)⟩
/-- A copy: its blocks are new, none is the document's. -/
theorem Copy_pair (K : Nat → Prop) (b r : Nat) (s : RS) (w : World) (h : PairR K w b r s) :
    Calls Try.prog 22 #[.pointer (some ⟨b, 0, none⟩)] w fun e w' => (∃ c O2, e = .returned (.pointer (some ⟨c, 0, none⟩)) ∧ PairR (fun j => K j ∨ O2 j) w' b r s ∧ Rot w' c s O2 ∧ ∀ j, O2 j → ¬ K j ∧ j ≠ r) ∧ Below w.heap.size w w' := by
  obtain ⟨O, a1, a2, a3, a4, a5⟩ := h
  have l1 := a1.lt
  have l2 := a2.1.lt
  refine (Copy_any b s O w a1).mono ?_
  rintro e w' ⟨⟨c, O2, rfl, k1, k2⟩, hb⟩
  have l3 := k1.lt
  have hs := hb.size
  refine ⟨⟨c, O2, rfl, ⟨O, a1.keep hb, a2.keep hb, fun j hj => ⟨fun k => k.elim (a3 j hj).1 (fun o => by have := k2 j o; have := l1 j hj; omega), (a3 j hj).2⟩, fun k => k.elim a4 (fun o => by have := k2 r o; omega), fun j hj => hj.elim (fun k => Nat.lt_of_lt_of_le (a5 j k) hs) (l3 j)⟩, k1, fun j hj => ⟨fun k => by have := a5 j k; have := k2 j hj; omega, fun e => by have := k2 j hj; omega⟩⟩, hb⟩
end Go.Proofs.Ytelmkfpomeilpaa.Rotor
