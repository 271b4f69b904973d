/-
  No cell of these rows narrows 'for every input' (looked for: loops, veiled, ifaces, maps, wideKeys, modest, calm, conditions, laid).
  DERIVED. THE GIVEN ROWS OF THIS SEAT. 4 by the template 'for every input the law returns true; each argument reads behind the call as it read before'; 0 by the template 'total and deterministic' (their statements: YtekmenojaojeiaaTotals.lean).
  GIVEN WITH THE SEED: the statements are not yours to turn. If you find one false, say at which input.
  Laid BY PROGRAM, IN A SANDBOX (cutbox-rows.mjs): the forced cells as the released guide's own fill.sh prints them over the translation 8e5ba7c89bf3c0f6… (all of the seat's roots in one cut). By AI agents, Wed Nov 11 2026. No macro, syntax, notation, axiom, sorry.
-/
import Derived.Test.YtekmenojaojeiaaChecked
import GoSem.Claim
import GoSem.ClaimJoined
import GoSem.ClaimMapViews
import Derived.JoinedTies
import Derived.KernelRfl
namespace Go.Proofs.Ytekmenojaojeiaa
/- THE CELL 'sum', in the pinned program and in every row, IS THE sha256 OF THE DUMP (.gsa) THAT YtekmenojaojeiaaProg.lean LOADS. Nothing in Lean hashes anything: it is a label: what it is worth is what the hold of that sum in a sandbox is worth. -/
noncomputable def Try.pinned : Pinned := { name := "ytekmenojaojeiaa", sum := "8e5ba7c89bf3c0f6bad9e98f91d0c9dc26fad4a3b3f8fa32b4a7a8df995c81bb", checked := Try.checked }
namespace Rows
def none {H : Type} : Left H := { results := [], args := [] }

/-- 'septumlaw05.FifoDoes': WHATEVER THE INPUT: true; the input reads as it did. -/
def fifoDoesSpec : ChangeSpec := { name := "fifoDoes", fn := fun _ => fun
  | [d1, d2] => { results := [.lit (.bool true)], args := [d1, d2] }
  | _ => none }
def fifoDoesRow : OpenClaim := { program := "ytekmenojaojeiaa", sum := "8e5ba7c89bf3c0f6bad9e98f91d0c9dc26fad4a3b3f8fa32b4a7a8df995c81bb", func := "septum/septumlaw05.FifoDoes", spec := "fifoDoes", unfollowed := true, recurses := true, apart := false }
def FifoDoesSaid : Prop := fifoDoesRow.holds Try.pinned (OpenSpec.ofChange fifoDoesSpec)

/-- ITS FALSE NEIGHBOUR: 'it returns false'. Refute it at one input. -/
def fifoDoesWrong : ChangeSpec := { name := "fifoDoes", fn := fun _ => fun
  | [d1, d2] => { results := [.lit (.bool false)], args := [d1, d2] }
  | _ => none }
def FifoDoesWrongFalsely : Prop := fifoDoesRow.holds Try.pinned (OpenSpec.ofChange fifoDoesWrong)

/-- 'septumlaw05.FifoSmall': WHATEVER THE INPUT: true; the input reads as it did. -/
def fifoSmallSpec : ChangeSpec := { name := "fifoSmall", fn := fun _ => fun
  | [] => { results := [.lit (.bool true)], args := [] }
  | _ => none }
def fifoSmallRow : OpenClaim := { program := "ytekmenojaojeiaa", sum := "8e5ba7c89bf3c0f6bad9e98f91d0c9dc26fad4a3b3f8fa32b4a7a8df995c81bb", func := "septum/septumlaw05.FifoSmall", spec := "fifoSmall", unfollowed := true, recurses := true, apart := false }
def FifoSmallSaid : Prop := fifoSmallRow.holds Try.pinned (OpenSpec.ofChange fifoSmallSpec)

/-- ITS FALSE NEIGHBOUR: 'it returns false'. Refute it at one input. -/
def fifoSmallWrong : ChangeSpec := { name := "fifoSmall", fn := fun _ => fun
  | [] => { results := [.lit (.bool false)], args := [] }
  | _ => none }
def FifoSmallWrongFalsely : Prop := fifoSmallRow.holds Try.pinned (OpenSpec.ofChange fifoSmallWrong)

/-- 'septumlaw05.FifoOrder': WHATEVER THE INPUT: true; the input reads as it did. -/
def fifoOrderSpec : ChangeSpec := { name := "fifoOrder", fn := fun _ => fun
  | [d1, d2] => { results := [.lit (.bool true)], args := [d1, d2] }
  | _ => none }
def fifoOrderRow : OpenClaim := { program := "ytekmenojaojeiaa", sum := "8e5ba7c89bf3c0f6bad9e98f91d0c9dc26fad4a3b3f8fa32b4a7a8df995c81bb", func := "septum/septumlaw05.FifoOrder", spec := "fifoOrder", unfollowed := true, recurses := true, apart := false }
def FifoOrderSaid : Prop := fifoOrderRow.holds Try.pinned (OpenSpec.ofChange fifoOrderSpec)

/-- ITS FALSE NEIGHBOUR: 'it returns false'. Refute it at one input. -/
def fifoOrderWrong : ChangeSpec := { name := "fifoOrder", fn := fun _ => fun
  | [d1, d2] => { results := [.lit (.bool false)], args := [d1, d2] }
  | _ => none }
def FifoOrderWrongFalsely : Prop := fifoOrderRow.holds Try.pinned (OpenSpec.ofChange fifoOrderWrong)

/-- 'septumlaw05.FifoTurns': WHATEVER THE INPUT: true; the input reads as it did. -/
def fifoTurnsSpec : ChangeSpec := { name := "fifoTurns", fn := fun _ => fun
  | [d1, d2] => { results := [.lit (.bool true)], args := [d1, d2] }
  | _ => none }
def fifoTurnsRow : OpenClaim := { program := "ytekmenojaojeiaa", sum := "8e5ba7c89bf3c0f6bad9e98f91d0c9dc26fad4a3b3f8fa32b4a7a8df995c81bb", func := "septum/septumlaw05.FifoTurns", spec := "fifoTurns", unfollowed := true, recurses := true, apart := false }
def FifoTurnsSaid : Prop := fifoTurnsRow.holds Try.pinned (OpenSpec.ofChange fifoTurnsSpec)

/-- ITS FALSE NEIGHBOUR: 'it returns false'. Refute it at one input. -/
def fifoTurnsWrong : ChangeSpec := { name := "fifoTurns", fn := fun _ => fun
  | [d1, d2] => { results := [.lit (.bool false)], args := [d1, d2] }
  | _ => none }
def FifoTurnsWrongFalsely : Prop := fifoTurnsRow.holds Try.pinned (OpenSpec.ofChange fifoTurnsWrong)

/- THE SECOND FORM. 'bulk': how many values and letters a reading holds, each counted each time it is reached (what is shared counts as often as it is met; a slice's spare places count too). A statement '..UptoSaid' is the law's where the arguments, and the package variables that the reading takes, are together of bulk at most 1048576: NARROWER than '..Said'. Prove '..Said' where nothing that the law and all that it calls make is longer than what came in: it says more and counts as full. Else prove '..UptoSaid'. A law counts once. -/
mutual
def uptoBulk {H : Type} : DataW H → Nat
  | .lit (.string bytes) => bytes.length + 1
  | .lit _ => 1
  | .nil => 1
  | .ptr d => uptoBulk d + 1
  | .slice elems spare => uptoBulkAll elems + uptoBulkAll spare + 1
  | .agg parts => uptoBulkAll parts + 1
  | .iface _ d => uptoBulk d + 1
  | .map entries => uptoBulkEntries entries + 1
  | .held _ => 1
def uptoBulkAll {H : Type} : List (DataW H) → Nat
  | [] => 0
  | d :: r => uptoBulk d + uptoBulkAll r
def uptoBulkEntries {H : Type} : List (Lit × DataW H) → Nat
  | [] => 0
  | x :: r => uptoBulkEntry x + uptoBulkEntries r
def uptoBulkEntry {H : Type} : Lit × DataW H → Nat
  | (.string bytes, d) => bytes.length + uptoBulk d + 1
  | (_, d) => uptoBulk d + 1
 end
def uptoSmall : (H : Type) → List (DataW H) → Bool := fun _ ds => decide (uptoBulkAll ds ≤ 1048576)
def OpenSpec.upto (s : _root_.Go.ChangeSpec) : _root_.Go.OpenSpec := { _root_.Go.OpenSpec.ofChange s with cond := some uptoSmall }

/-- 'septumlaw05.FifoDoes', WHERE WHAT IT READS IS OF BULK AT MOST 1048576: true; the input reads as it did. -/
def fifoDoesUptoRow : OpenClaim := { program := "ytekmenojaojeiaa", sum := "8e5ba7c89bf3c0f6bad9e98f91d0c9dc26fad4a3b3f8fa32b4a7a8df995c81bb", func := "septum/septumlaw05.FifoDoes", spec := "fifoDoes", unfollowed := true, recurses := true, apart := false, narrowed := true }
def FifoDoesUptoSaid : Prop := fifoDoesUptoRow.holds Try.pinned (OpenSpec.upto fifoDoesSpec)

/-- 'septumlaw05.FifoSmall', WHERE WHAT IT READS IS OF BULK AT MOST 1048576: true; the input reads as it did. -/
def fifoSmallUptoRow : OpenClaim := { program := "ytekmenojaojeiaa", sum := "8e5ba7c89bf3c0f6bad9e98f91d0c9dc26fad4a3b3f8fa32b4a7a8df995c81bb", func := "septum/septumlaw05.FifoSmall", spec := "fifoSmall", unfollowed := true, recurses := true, apart := false, narrowed := true }
def FifoSmallUptoSaid : Prop := fifoSmallUptoRow.holds Try.pinned (OpenSpec.upto fifoSmallSpec)

/-- 'septumlaw05.FifoOrder', WHERE WHAT IT READS IS OF BULK AT MOST 1048576: true; the input reads as it did. -/
def fifoOrderUptoRow : OpenClaim := { program := "ytekmenojaojeiaa", sum := "8e5ba7c89bf3c0f6bad9e98f91d0c9dc26fad4a3b3f8fa32b4a7a8df995c81bb", func := "septum/septumlaw05.FifoOrder", spec := "fifoOrder", unfollowed := true, recurses := true, apart := false, narrowed := true }
def FifoOrderUptoSaid : Prop := fifoOrderUptoRow.holds Try.pinned (OpenSpec.upto fifoOrderSpec)

/-- 'septumlaw05.FifoTurns', WHERE WHAT IT READS IS OF BULK AT MOST 1048576: true; the input reads as it did. -/
def fifoTurnsUptoRow : OpenClaim := { program := "ytekmenojaojeiaa", sum := "8e5ba7c89bf3c0f6bad9e98f91d0c9dc26fad4a3b3f8fa32b4a7a8df995c81bb", func := "septum/septumlaw05.FifoTurns", spec := "fifoTurns", unfollowed := true, recurses := true, apart := false, narrowed := true }
def FifoTurnsUptoSaid : Prop := fifoTurnsUptoRow.holds Try.pinned (OpenSpec.upto fifoTurnsSpec)

end Rows
end Go.Proofs.Ytekmenojaojeiaa
