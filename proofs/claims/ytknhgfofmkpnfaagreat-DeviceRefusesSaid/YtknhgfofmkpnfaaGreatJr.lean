/- The document's mailbox: Line, Write, Read. -/
import Derived.Test.YtknhgfofmkpnfaaGreatJw
import Derived.Test.YtknhgfofmkpnfaaGreatOfL
import Derived.Test.YtknhgfofmkpnfaaGreatGr
namespace Go.Proofs.YtknhgfofmkpnfaaGreat.Mbox
open Go.RowKit Go.Maps Go.ChangeShapes Go.WideShapes Go.ChangeAt Fifo Orow Word OffL
set_option linter.unusedVariables false

def RefO (r : Nat) (va : Value) : Nat → Prop := fun j => j = r ∨ PB va j
theorem beq_no {a b : Int} (h : ¬ a = b) : (a == b) = false := by simpa using h
theorem read_nil {u : Bx} (hg : u.W = []) : readX u 0 = (0, u) := by unfold readX; rw [if_pos rfl, hg]
theorem read_cons {u : Bx} {b : Int} {t : List Int} (hg : u.W = b :: t) : readX u 0 = (b, { u with W := t }) := by unfold readX; rw [if_pos rfl, hg]
theorem read_1 (u : Bx) : readX u 1 = ((u.W.length : Int), u) := by unfold readX; rw [if_neg (by decide), if_pos rfl]
theorem read_2 (u : Bx) : readX u 2 = (u.C, u) := by unfold readX; rw [if_neg (by decide), if_neg (by decide), if_pos rfl]
theorem read_3 (u : Bx) : readX u 3 = (u.L, u) := by unfold readX; rw [if_neg (by decide), if_neg (by decide), if_neg (by decide), if_pos rfl]
theorem read_no (u : Bx) {reg : Int} (h0 : ¬ reg = 0) (h1 : ¬ reg = 1) (h2 : ¬ reg = 2) (h3 : ¬ reg = 3) : readX u reg = (0, u) := by unfold readX; rw [if_neg h0, if_neg h1, if_neg h2, if_neg h3]
end Go.Proofs.YtknhgfofmkpnfaaGreat.Mbox
