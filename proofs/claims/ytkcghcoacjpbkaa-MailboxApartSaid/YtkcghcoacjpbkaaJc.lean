/- A mailbox whose blocks are none of K. -/
import Derived.Test.YtkcghcoacjpbkaaJw
import Derived.Test.YtkcghcoacjpbkaaGr
import Derived.LoopN
namespace Go.Proofs.Ytkcghcoacjpbkaa.Mbox
open Go.RowKit Go.Maps Go.ChangeShapes Go.WideShapes Go.ChangeAt Fifo Orow Word
set_option linter.unusedVariables false

/-- The mailbox in block b has u; none of its blocks is one of K. -/
def Hold (K : Nat → Prop) (w : World) (b : Nat) (u : Bx) : Prop := ∃ O, Box w b u O ∧ (∀ j, O j → ¬ K j) ∧ ∀ j, K j → j < w.heap.size
theorem Hold.keep {K : Nat → Prop} {w w' : World} {b : Nat} {u : Bx} (h : Hold K w b u) (hb : Below w.heap.size w w') : Hold K w' b u := by
  obtain ⟨O, h1, h2, h3⟩ := h
  exact ⟨O, h1.keep hb, h2, fun j hj => Nat.lt_of_lt_of_le (h3 j hj) hb.size⟩
theorem Hold.ok {K : Nat → Prop} {w : World} {b : Nat} {u : Bx} (h : Hold K w b u) : OkX u := by
  obtain ⟨O, h1, _⟩ := h
  exact h1.ok
theorem Hold.less {K K' : Nat → Prop} {w : World} {b : Nat} {u : Bx} (h : Hold K w b u) (hK : ∀ j, K' j → K j) : Hold K' w b u := by
  obtain ⟨O, h1, h2, h3⟩ := h
  exact ⟨O, h1, fun j hj k => h2 j hj (hK j k), fun j hj => h3 j (hK j hj)⟩
/-- New blocks (D) are laid: they are none of the mailbox's. -/
theorem Hold.also {K : Nat → Prop} {w w' : World} {b : Nat} {u : Bx} (h : Hold K w b u) (hb : Below w.heap.size w w') (D : Nat → Prop) (h1 : ∀ j, D j → w.heap.size ≤ j ∧ j < w'.heap.size) : Hold (fun j => K j ∨ D j) w' b u := by
  obtain ⟨O, a1, a2, a3⟩ := h
  have l1 := a1.lt
  exact ⟨O, a1.keep hb, fun j hj k => k.elim (a2 j hj) (fun d => by have := (h1 j d).1; have := l1 j hj; omega), fun j hj => hj.elim (fun k => Nat.lt_of_lt_of_le (a3 j k) hb.size) (fun d => (h1 j d).2)⟩
/-- Blocks that K names are written over. -/
theorem Hold.far {K S : Nat → Prop} {w w' : World} {b : Nat} {u : Bx} (h : Hold K w b u) (hS : ∀ j, S j → K j) (ho : Only S w w') : Hold K w' b u := by
  obtain ⟨O, h1, h2, h3⟩ := h
  exact ⟨O, h1.only ho (fun j hj e => h2 j hj (hS j e)), h2, fun j hj => Nat.lt_of_lt_of_le (h3 j hj) ho.size⟩
/-- Blocks that K names are written over, or were laid: K may become what they are now (K'). -/
theorem Hold.grown {K S K' : Nat → Prop} {w w' : World} {b : Nat} {u : Bx} (h : Hold K w b u) (hS : ∀ j, S j → K j) (ho : Only S w w') (hK : ∀ j, K' j → K j ∨ w.heap.size ≤ j ∧ j < w'.heap.size) : Hold K' w' b u := by
  obtain ⟨O, h1, h2, h3⟩ := h
  have l1 := h1.lt
  exact ⟨O, h1.only ho (fun j hj e => h2 j hj (hS j e)), fun j hj k => (hK j k).elim (h2 j hj) (fun d => by have := l1 j hj; omega), fun j hj => (hK j hj).elim (fun k => Nat.lt_of_lt_of_le (h3 j k) ho.size) (fun d => d.2)⟩
theorem Hold.step {K O O' : Nat → Prop} {w w' : World} {b : Nat} {u : Bx} (h2 : ∀ j, O j → ¬ K j) (h3 : ∀ j, K j → j < w.heap.size) (k1 : Box w' b u O') (k2 : Only O w w') (k3 : ∀ j, O' j → O j ∨ w.heap.size ≤ j) : Hold K w' b u ∧ Only (fun j => ¬ K j) w w' :=
  ⟨⟨O', k1, fun j hj k => (k3 j hj).elim (fun o => h2 j o k) (fun e => by have := h3 j k; omega), fun j hj => Nat.lt_of_lt_of_le (h3 j hj) k2.size⟩, k2.mono (fun j _ o => h2 j o)⟩
theorem New_hold (K : Nat → Prop) (w : World) (hK : ∀ j, K j → j < w.heap.size) :
    Calls Try.prog 8 #[] w fun e w' => (∃ b, e = .returned (.pointer (some ⟨b, 0, none⟩)) ∧ Hold K w' b zeroX) ∧ Below w.heap.size w w' := by
  refine (New_any w).mono ?_
  rintro e w' ⟨⟨b, O, rfl, h1, h2⟩, hb⟩
  exact ⟨⟨b, rfl, O, h1, fun j hj k => by have := hK j k; have := h2 j hj; omega, fun j hj => Nat.lt_of_lt_of_le (hK j hj) hb.size⟩, hb⟩
theorem Copy_hold (K : Nat → Prop) (b : Nat) (u : Bx) (w : World) (h : Hold K w b u) :
    Calls Try.prog 14 #[.pointer (some ⟨b, 0, none⟩)] w fun e w' => (∃ c, e = .returned (.pointer (some ⟨c, 0, none⟩)) ∧ ∃ O O', Box w' b u O ∧ Box w' c u O' ∧ (∀ j, O j → ¬ K j) ∧ (∀ j, O' j → ¬ K j) ∧ (∀ j, O' j → ¬ O j) ∧ ∀ j, K j → j < w'.heap.size) ∧ Below w.heap.size w w' := by
  obtain ⟨O, a1, a2, a3⟩ := h
  refine (Copy_any b u O w a1).mono ?_
  rintro e w' ⟨⟨c, O', rfl, h1, h2⟩, hb⟩
  exact ⟨⟨c, rfl, O, O', a1.keep hb, h1, a2, fun j hj k => by have := a3 j k; have := h2 j hj; omega, fun j hj k => by have := a1.lt j k; have := h2 j hj; omega, fun j hj => Nat.lt_of_lt_of_le (a3 j hj) hb.size⟩, hb⟩
theorem Read_hold (K : Nat → Prop) (b : Nat) (u : Bx) (reg : Int) (w : World) (h1 : I64 reg) (h : Hold K w b u) :
    Calls Try.prog 10 #[.pointer (some ⟨b, 0, none⟩), .int .i64 reg] w fun e w' => e = .returned (.int .u32 (readX u reg).1) ∧ Hold K w' b (readX u reg).2 ∧ Only (fun j => ¬ K j) w w' := by
  obtain ⟨O, a1, a2, a3⟩ := h
  refine (Read_any b u O reg w h1 a1).mono ?_
  rintro e w' ⟨rfl, O', b1, b2, b3⟩
  exact ⟨rfl, Hold.step a2 a3 b1 b2 b3⟩
theorem Write_hold (K : Nat → Prop) (b : Nat) (u : Bx) (reg v : Int) (w : World) (h1 : I64 reg) (h2 : 0 ≤ v ∧ v < 4294967296) (h : Hold K w b u) :
    Calls Try.prog 12 #[.pointer (some ⟨b, 0, none⟩), .int .i64 reg, .int .u32 v] w fun e w' => e = .returned (.tuple #[]) ∧ Hold K w' b (writeX u reg v) ∧ Only (fun j => ¬ K j) w w' := by
  obtain ⟨O, a1, a2, a3⟩ := h
  refine (Write_any b u O reg v w h1 h2 a1).mono ?_
  rintro e w' ⟨rfl, O', b1, b2, b3⟩
  exact ⟨rfl, Hold.step a2 a3 b1 b2 b3⟩
theorem Line_hold (K : Nat → Prop) (b : Nat) (u : Bx) (w : World) (h : Hold K w b u) :
    Calls Try.prog 18 #[.pointer (some ⟨b, 0, none⟩)] w fun e w' => e = .returned (.bool (lineX u)) ∧ Below w.heap.size w w' := by
  obtain ⟨O, a1, _⟩ := h
  exact Line_any b u O w a1
theorem below_only {K : Nat → Prop} {B : Nat} {w w1 w2 : World} (h : Below B w w1) (ho : Only (fun j => ¬ K j) w1 w2) (hB : B ≤ w.heap.size) (hK : ∀ j, j < B → K j) : Below B w w2 :=
  h.trans (ho.below (Nat.le_trans hB h.size) (fun k hk => Nat.le_of_not_lt (fun e => hk (hK k e))))
theorem only_drew2 {S : Nat → Prop} {w w' : World} (h : Only S w w') : Only S w w'.drew := ⟨h.os, h.tape, h.output, h.size, h.block⟩
end Go.Proofs.Ytkcghcoacjpbkaa.Mbox
