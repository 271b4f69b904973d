/- A mailbox and the document's side by side; they are the same; what State tells is written over. -/
import Derived.Test.YtkcghcoacjpbkaaJc
import Derived.Test.YtkcghcoacjpbkaaJr
import Derived.Test.YtkcghcoacjpbkaaJs
import Derived.Test.YtkcghcoacjpbkaaOvL
namespace Go.Proofs.Ytkcghcoacjpbkaa.Mbox
open Go.RowKit Go.Maps Go.ChangeShapes Go.WideShapes Go.ChangeAt Fifo Orow Word
open Bench (RowO)
set_option linter.unusedVariables false

/-- The mailbox in block b has u, the document's in block r has v; none of their blocks is one of K. -/
def PairX (K : Nat → Prop) (w : World) (b r : Nat) (u v : Bx) : Prop :=
  ∃ O P, Box w b u O ∧ RefB w r v P ∧ (∀ j, O j → ¬ K j ∧ ¬ P j) ∧ (∀ j, P j → ¬ K j) ∧ ∀ j, K j → j < w.heap.size
theorem PairX.keep {K : Nat → Prop} {w w' : World} {b r : Nat} {u v : Bx} (h : PairX K w b r u v) (hb : Below w.heap.size w w') : PairX K w' b r u v := by
  obtain ⟨O, P, h1, h2, h3, h4, h5⟩ := h
  exact ⟨O, P, h1.keep hb, h2.keep hb, h3, h4, fun j hj => Nat.lt_of_lt_of_le (h5 j hj) hb.size⟩
theorem PairX.ok {K : Nat → Prop} {w : World} {b r : Nat} {u v : Bx} (h : PairX K w b r u v) : OkX u ∧ OkX v := by
  obtain ⟨O, P, h1, h2, _⟩ := h
  exact ⟨h1.ok, h2.ok⟩
theorem PairX.less {K K' : Nat → Prop} {w : World} {b r : Nat} {u v : Bx} (h : PairX K w b r u v) (hK : ∀ j, K' j → K j) : PairX K' w b r u v := by
  obtain ⟨O, P, h1, h2, h3, h4, h5⟩ := h
  exact ⟨O, P, h1, h2, fun j hj => ⟨fun k => (h3 j hj).1 (hK j k), (h3 j hj).2⟩, fun j hj k => h4 j hj (hK j k), fun j hj => h5 j (hK j hj)⟩
/-- New blocks (D) are laid: they are neither's. -/
theorem PairX.also {K : Nat → Prop} {w w' : World} {b r : Nat} {u v : Bx} (h : PairX K w b r u v) (hb : Below w.heap.size w w') (D : Nat → Prop) (h1 : ∀ j, D j → w.heap.size ≤ j ∧ j < w'.heap.size) : PairX (fun j => K j ∨ D j) w' b r u v := by
  obtain ⟨O, P, a1, a2, a3, a4, a5⟩ := h
  have l1 := a1.lt
  have l2 := a2.lt
  exact ⟨O, P, a1.keep hb, a2.keep hb, fun j hj => ⟨fun k => k.elim (a3 j hj).1 (fun d => by have := (h1 j d).1; have := l1 j hj; omega), (a3 j hj).2⟩, fun j hj k => k.elim (a4 j hj) (fun d => by have := (h1 j d).1; have := l2 j hj; omega), fun j hj => hj.elim (fun k => Nat.lt_of_lt_of_le (a5 j k) hb.size) (fun d => (h1 j d).2)⟩
/-- Blocks that K names are written over. -/
theorem PairX.far {K S : Nat → Prop} {w w' : World} {b r : Nat} {u v : Bx} (h : PairX K w b r u v) (hS : ∀ j, S j → K j) (ho : Only S w w') : PairX K w' b r u v := by
  obtain ⟨O, P, h1, h2, h3, h4, h5⟩ := h
  exact ⟨O, P, h1.only ho (fun j hj e => (h3 j hj).1 (hS j e)), h2.only ho (fun j hj e => h4 j hj (hS j e)), h3, h4, fun j hj => Nat.lt_of_lt_of_le (h5 j hj) ho.size⟩
theorem PairX.stepX {K O P O' : Nat → Prop} {w w' : World} {b r : Nat} {u v : Bx} (h2 : RefB w r v P) (h3 : ∀ j, O j → ¬ K j ∧ ¬ P j) (h4 : ∀ j, P j → ¬ K j) (h5 : ∀ j, K j → j < w.heap.size)
    (k1 : Box w' b u O') (k2 : Only O w w') (k3 : ∀ j, O' j → O j ∨ w.heap.size ≤ j) : PairX K w' b r u v ∧ Only (fun j => ¬ K j) w w' := by
  have l2 := h2.lt
  exact ⟨⟨O', P, k1, h2.only k2 (fun j hj e => (h3 j e).2 hj), fun j hj => (k3 j hj).elim (h3 j) (fun e => ⟨fun k => by have := h5 j k; omega, fun k => by have := l2 j k; omega⟩), h4, fun j hj => Nat.lt_of_lt_of_le (h5 j hj) k2.size⟩, k2.mono (fun j _ o => (h3 j o).1)⟩
theorem PairX.stepR {K O P P' : Nat → Prop} {w w' : World} {b r : Nat} {u v : Bx} (h1 : Box w b u O) (h3 : ∀ j, O j → ¬ K j ∧ ¬ P j) (h4 : ∀ j, P j → ¬ K j) (h5 : ∀ j, K j → j < w.heap.size)
    (k1 : RefB w' r v P') (k2 : Only P w w') (k3 : ∀ j, P' j → P j ∨ w.heap.size ≤ j) : PairX K w' b r u v ∧ Only (fun j => ¬ K j) w w' := by
  have l1 := h1.lt
  exact ⟨⟨O, P', h1.only k2 (fun j hj e => (h3 j hj).2 e), k1, fun j hj => ⟨(h3 j hj).1, fun k => (k3 j k).elim (h3 j hj).2 (fun e => by have := l1 j hj; omega)⟩, fun j hj => (k3 j hj).elim (h4 j) (fun e k => by have := h5 j k; omega), fun j hj => Nat.lt_of_lt_of_le (h5 j hj) k2.size⟩, k2.mono (fun j _ o => h4 j o)⟩
theorem Read_pair (K : Nat → Prop) (b r : Nat) (u v : Bx) (reg : Int) (w : World) (h1 : I64 reg) (h : PairX K w b r u v) :
    Calls Try.prog 10 #[.pointer (some ⟨b, 0, none⟩), .int .i64 reg] w fun e w' => e = .returned (.int .u32 (readX u reg).1) ∧ PairX K w' b r (readX u reg).2 v ∧ Only (fun j => ¬ K j) w w' := by
  obtain ⟨O, P, a1, a2, a3, a4, a5⟩ := h
  refine (Read_any b u O reg w h1 a1).mono ?_
  rintro e w' ⟨rfl, O', k1, k2, k3⟩
  exact ⟨rfl, PairX.stepX a2 a3 a4 a5 k1 k2 k3⟩
theorem rRead_pair (K : Nat → Prop) (b r : Nat) (u v : Bx) (reg : Int) (w : World) (h1 : I64 reg) (h : PairX K w b r u v) :
    Calls Try.prog 11 #[.pointer (some ⟨r, 0, none⟩), .int .i64 reg] w fun e w' => e = .returned (.int .u32 (readX v reg).1) ∧ PairX K w' b r u (readX v reg).2 ∧ Only (fun j => ¬ K j) w w' := by
  obtain ⟨O, P, a1, a2, a3, a4, a5⟩ := h
  refine (rRead_any r v P reg w  a2).mono ?_
  rintro e w' ⟨rfl, O', k1, k2, k3⟩
  exact ⟨rfl, PairX.stepR a1 a3 a4 a5 k1 k2 k3⟩
theorem Write_pair (K : Nat → Prop) (b r : Nat) (u v : Bx) (reg x : Int) (w : World) (h1 : I64 reg) (h2 : 0 ≤ x ∧ x < 4294967296) (h : PairX K w b r u v) :
    Calls Try.prog 12 #[.pointer (some ⟨b, 0, none⟩), .int .i64 reg, .int .u32 x] w fun e w' => e = .returned (.tuple #[]) ∧ PairX K w' b r (writeX u reg x) v ∧ Only (fun j => ¬ K j) w w' := by
  obtain ⟨O, P, a1, a2, a3, a4, a5⟩ := h
  refine (Write_any b u O reg x w h1 h2 a1).mono ?_
  rintro e w' ⟨rfl, O', k1, k2, k3⟩
  exact ⟨rfl, PairX.stepX a2 a3 a4 a5 k1 k2 k3⟩
theorem rWrite_pair (K : Nat → Prop) (b r : Nat) (u v : Bx) (reg x : Int) (w : World) (h1 : I64 reg) (h2 : 0 ≤ x ∧ x < 4294967296) (h : PairX K w b r u v) :
    Calls Try.prog 13 #[.pointer (some ⟨r, 0, none⟩), .int .i64 reg, .int .u32 x] w fun e w' => e = .returned (.tuple #[]) ∧ PairX K w' b r u (writeX v reg x) ∧ Only (fun j => ¬ K j) w w' := by
  obtain ⟨O, P, a1, a2, a3, a4, a5⟩ := h
  refine (rWrite_any r v P reg x w h2 a2).mono ?_
  rintro e w' ⟨rfl, O', k1, k2, k3⟩
  exact ⟨rfl, PairX.stepR a1 a3 a4 a5 k1 k2 k3⟩
/-- Both are the same. -/
theorem line_pair (K : Nat → Prop) (b r : Nat) (u v : Bx) (w : World) (h : PairX K w b r u v) :
    Calls Try.prog 18 #[.pointer (some ⟨b, 0, none⟩)] w fun e w' => e = .returned (.bool (lineX u)) ∧ Below w.heap.size w w' := by
  obtain ⟨O, P, h1, _⟩ := h
  exact Line_any b u O w h1
theorem rline_pair (K : Nat → Prop) (b r : Nat) (u v : Bx) (w : World) (h : PairX K w b r u v) :
    Calls Try.prog 27 #[.pointer (some ⟨r, 0, none⟩)] w fun e w' => e = .returned (.bool (lineX v)) ∧ w = w' := by
  obtain ⟨O, P, _, h2, _⟩ := h
  exact rLine_any r v P w h2
theorem state_pair (K : Nat → Prop) (b r : Nat) (u v : Bx) (w : World) (h : PairX K w b r u v) :
    Calls Try.prog 16 #[.pointer (some ⟨b, 0, none⟩)] w fun e w' => (∃ a1 c1, e = .returned (.agg #[.slice a1 u.W.length c1, .int .u32 u.C, .int .u32 u.L]) ∧ w'.ownsRow w.heap.size 28 1 (.slice a1 u.W.length c1) u.W.length (lv u.W)) ∧ Below w.heap.size w w' := by
  obtain ⟨O, P, h1, _⟩ := h
  exact State_any b u O w h1
end Go.Proofs.Ytkcghcoacjpbkaa.Mbox
