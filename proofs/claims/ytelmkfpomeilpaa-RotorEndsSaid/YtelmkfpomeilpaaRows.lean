/-
  No cell of these rows narrows 'for every input' (looked for: loops, veiled, ifaces, maps, wideKeys, modest, calm, conditions, laid).
  DERIVED. THE GIVEN ROWS OF THIS SEAT. 6 by the template 'for every input the law returns true; each argument reads behind the call as it read before'; 0 by the template 'total and deterministic' (their statements: YtelmkfpomeilpaaTotals.lean).
  GIVEN WITH THE SEED: the statements are not yours to turn. If you find one false, say at which input.
  Laid BY PROGRAM, IN A SANDBOX (cutbox-rows.mjs): the forced cells as the released guide's own fill.sh prints them over the translation 3bf31f013e3dc389… (all of the seat's roots in one cut). By AI agents, Wed Nov 11 2026. No macro, syntax, notation, axiom, sorry.
-/
import Derived.Test.YtelmkfpomeilpaaChecked
import GoSem.Claim
import GoSem.ClaimJoined
import GoSem.ClaimMapViews
import Derived.JoinedTies
import Derived.KernelRfl
namespace Go.Proofs.Ytelmkfpomeilpaa
/- THE CELL 'sum', in the pinned program and in every row, IS THE sha256 OF THE DUMP (.gsa) THAT YtelmkfpomeilpaaProg.lean LOADS. Nothing in Lean hashes anything: it is a label: what it is worth is what the hold of that sum in a sandbox is worth. -/
noncomputable def Try.pinned : Pinned := { name := "ytelmkfpomeilpaa", sum := "3bf31f013e3dc3897f0ade72303b22cf76bae430340bb062649ae07034b51951", checked := Try.checked }
namespace Rows
def none {H : Type} : Left H := { results := [], args := [] }

/-- 'septumlaw13.RotorPoints': WHATEVER THE INPUT: true; the input reads as it did. -/
def rotorPointsSpec : ChangeSpec := { name := "rotorPoints", fn := fun _ => fun
  | [d1, d2, d3] => { results := [.lit (.bool true)], args := [d1, d2, d3] }
  | _ => none }
def rotorPointsRow : OpenClaim := { program := "ytelmkfpomeilpaa", sum := "3bf31f013e3dc3897f0ade72303b22cf76bae430340bb062649ae07034b51951", func := "septum/septumlaw13.RotorPoints", spec := "rotorPoints", inPlace := ["math.archTrunc", "math.Float64bits", "math.Float64frombits"], unfollowed := true, recurses := true, apart := false }
def RotorPointsSaid : Prop := rotorPointsRow.holds Try.pinned (OpenSpec.ofChange rotorPointsSpec)

/-- ITS FALSE NEIGHBOUR: 'it returns false'. Refute it at one input. -/
def rotorPointsWrong : ChangeSpec := { name := "rotorPoints", fn := fun _ => fun
  | [d1, d2, d3] => { results := [.lit (.bool false)], args := [d1, d2, d3] }
  | _ => none }
def RotorPointsWrongFalsely : Prop := rotorPointsRow.holds Try.pinned (OpenSpec.ofChange rotorPointsWrong)

/-- 'septumlaw13.RotorOthers': WHATEVER THE INPUT: true; the input reads as it did. -/
def rotorOthersSpec : ChangeSpec := { name := "rotorOthers", fn := fun _ => fun
  | [d1, d2, d3] => { results := [.lit (.bool true)], args := [d1, d2, d3] }
  | _ => none }
def rotorOthersRow : OpenClaim := { program := "ytelmkfpomeilpaa", sum := "3bf31f013e3dc3897f0ade72303b22cf76bae430340bb062649ae07034b51951", func := "septum/septumlaw13.RotorOthers", spec := "rotorOthers", inPlace := ["math.archTrunc", "math.Float64bits", "math.Float64frombits"], unfollowed := true, recurses := true, apart := false }
def RotorOthersSaid : Prop := rotorOthersRow.holds Try.pinned (OpenSpec.ofChange rotorOthersSpec)

/-- ITS FALSE NEIGHBOUR: 'it returns false'. Refute it at one input. -/
def rotorOthersWrong : ChangeSpec := { name := "rotorOthers", fn := fun _ => fun
  | [d1, d2, d3] => { results := [.lit (.bool false)], args := [d1, d2, d3] }
  | _ => none }
def RotorOthersWrongFalsely : Prop := rotorOthersRow.holds Try.pinned (OpenSpec.ofChange rotorOthersWrong)

/-- 'septumlaw13.RotorDoes': WHATEVER THE INPUT: true; the input reads as it did. -/
def rotorDoesSpec : ChangeSpec := { name := "rotorDoes", fn := fun _ => fun
  | [d] => { results := [.lit (.bool true)], args := [d] }
  | _ => none }
def rotorDoesRow : OpenClaim := { program := "ytelmkfpomeilpaa", sum := "3bf31f013e3dc3897f0ade72303b22cf76bae430340bb062649ae07034b51951", func := "septum/septumlaw13.RotorDoes", spec := "rotorDoes", inPlace := ["math.archTrunc", "math.Float64bits", "math.Float64frombits"], unfollowed := true, recurses := true, apart := false }
def RotorDoesSaid : Prop := rotorDoesRow.holds Try.pinned (OpenSpec.ofChange rotorDoesSpec)

/-- ITS FALSE NEIGHBOUR: 'it returns false'. Refute it at one input. -/
def rotorDoesWrong : ChangeSpec := { name := "rotorDoes", fn := fun _ => fun
  | [d] => { results := [.lit (.bool false)], args := [d] }
  | _ => none }
def RotorDoesWrongFalsely : Prop := rotorDoesRow.holds Try.pinned (OpenSpec.ofChange rotorDoesWrong)

/-- 'septumlaw13.RotorEnds': WHATEVER THE INPUT: true; the input reads as it did. -/
def rotorEndsSpec : ChangeSpec := { name := "rotorEnds", fn := fun _ => fun
  | [] => { results := [.lit (.bool true)], args := [] }
  | _ => none }
def rotorEndsRow : OpenClaim := { program := "ytelmkfpomeilpaa", sum := "3bf31f013e3dc3897f0ade72303b22cf76bae430340bb062649ae07034b51951", func := "septum/septumlaw13.RotorEnds", spec := "rotorEnds", inPlace := ["math.archTrunc", "math.Float64bits", "math.Float64frombits"], unfollowed := true, recurses := true, apart := false }
def RotorEndsSaid : Prop := rotorEndsRow.holds Try.pinned (OpenSpec.ofChange rotorEndsSpec)

/-- ITS FALSE NEIGHBOUR: 'it returns false'. Refute it at one input. -/
def rotorEndsWrong : ChangeSpec := { name := "rotorEnds", fn := fun _ => fun
  | [] => { results := [.lit (.bool false)], args := [] }
  | _ => none }
def RotorEndsWrongFalsely : Prop := rotorEndsRow.holds Try.pinned (OpenSpec.ofChange rotorEndsWrong)

/-- 'septumlaw13.RotorRing': WHATEVER THE INPUT: true; the input reads as it did. -/
def rotorRingSpec : ChangeSpec := { name := "rotorRing", fn := fun _ => fun
  | [d1, d2, d3] => { results := [.lit (.bool true)], args := [d1, d2, d3] }
  | _ => none }
def rotorRingRow : OpenClaim := { program := "ytelmkfpomeilpaa", sum := "3bf31f013e3dc3897f0ade72303b22cf76bae430340bb062649ae07034b51951", func := "septum/septumlaw13.RotorRing", spec := "rotorRing", inPlace := ["math.archTrunc", "math.Float64bits", "math.Float64frombits"], unfollowed := true, recurses := true, apart := false }
def RotorRingSaid : Prop := rotorRingRow.holds Try.pinned (OpenSpec.ofChange rotorRingSpec)

/-- ITS FALSE NEIGHBOUR: 'it returns false'. Refute it at one input. -/
def rotorRingWrong : ChangeSpec := { name := "rotorRing", fn := fun _ => fun
  | [d1, d2, d3] => { results := [.lit (.bool false)], args := [d1, d2, d3] }
  | _ => none }
def RotorRingWrongFalsely : Prop := rotorRingRow.holds Try.pinned (OpenSpec.ofChange rotorRingWrong)

/-- 'septumlaw13.RotorTurns': WHATEVER THE INPUT: true; the input reads as it did. -/
def rotorTurnsSpec : ChangeSpec := { name := "rotorTurns", fn := fun _ => fun
  | [d1, d2, d3] => { results := [.lit (.bool true)], args := [d1, d2, d3] }
  | _ => none }
def rotorTurnsRow : OpenClaim := { program := "ytelmkfpomeilpaa", sum := "3bf31f013e3dc3897f0ade72303b22cf76bae430340bb062649ae07034b51951", func := "septum/septumlaw13.RotorTurns", spec := "rotorTurns", inPlace := ["math.archTrunc", "math.Float64bits", "math.Float64frombits"], unfollowed := true, recurses := true, apart := false }
def RotorTurnsSaid : Prop := rotorTurnsRow.holds Try.pinned (OpenSpec.ofChange rotorTurnsSpec)

/-- ITS FALSE NEIGHBOUR: 'it returns false'. Refute it at one input. -/
def rotorTurnsWrong : ChangeSpec := { name := "rotorTurns", fn := fun _ => fun
  | [d1, d2, d3] => { results := [.lit (.bool false)], args := [d1, d2, d3] }
  | _ => none }
def RotorTurnsWrongFalsely : Prop := rotorTurnsRow.holds Try.pinned (OpenSpec.ofChange rotorTurnsWrong)

/- THE SECOND FORM. 'bulk': how many values and letters a reading holds, each counted each time it is reached (what is shared counts as often as it is met; a slice's spare places count too). A statement '..UptoSaid' is the law's where the arguments, and the package variables that the reading takes, are together of bulk at most 1048576: NARROWER than '..Said'. Prove '..Said' where nothing that the law and all that it calls make is longer than what came in: it says more and counts as full. Else prove '..UptoSaid'. A law counts once. -/
mutual
def uptoBulk {H : Type} : DataW H → Nat
  | .lit (.string bytes) => bytes.length + 1
  | .lit _ => 1
  | .nil => 1
  | .ptr d => uptoBulk d + 1
  | .slice elems spare => uptoBulkAll elems + uptoBulkAll spare + 1
  | .agg parts => uptoBulkAll parts + 1
  | .iface _ d => uptoBulk d + 1
  | .map entries => uptoBulkEntries entries + 1
  | .held _ => 1
def uptoBulkAll {H : Type} : List (DataW H) → Nat
  | [] => 0
  | d :: r => uptoBulk d + uptoBulkAll r
def uptoBulkEntries {H : Type} : List (Lit × DataW H) → Nat
  | [] => 0
  | x :: r => uptoBulkEntry x + uptoBulkEntries r
def uptoBulkEntry {H : Type} : Lit × DataW H → Nat
  | (.string bytes, d) => bytes.length + uptoBulk d + 1
  | (_, d) => uptoBulk d + 1
 end
def uptoSmall : (H : Type) → List (DataW H) → Bool := fun _ ds => decide (uptoBulkAll ds ≤ 1048576)
def OpenSpec.upto (s : _root_.Go.ChangeSpec) : _root_.Go.OpenSpec := { _root_.Go.OpenSpec.ofChange s with cond := some uptoSmall }

/-- 'septumlaw13.RotorPoints', WHERE WHAT IT READS IS OF BULK AT MOST 1048576: true; the input reads as it did. -/
def rotorPointsUptoRow : OpenClaim := { program := "ytelmkfpomeilpaa", sum := "3bf31f013e3dc3897f0ade72303b22cf76bae430340bb062649ae07034b51951", func := "septum/septumlaw13.RotorPoints", spec := "rotorPoints", inPlace := ["math.archTrunc", "math.Float64bits", "math.Float64frombits"], unfollowed := true, recurses := true, apart := false, narrowed := true }
def RotorPointsUptoSaid : Prop := rotorPointsUptoRow.holds Try.pinned (OpenSpec.upto rotorPointsSpec)

/-- 'septumlaw13.RotorOthers', WHERE WHAT IT READS IS OF BULK AT MOST 1048576: true; the input reads as it did. -/
def rotorOthersUptoRow : OpenClaim := { program := "ytelmkfpomeilpaa", sum := "3bf31f013e3dc3897f0ade72303b22cf76bae430340bb062649ae07034b51951", func := "septum/septumlaw13.RotorOthers", spec := "rotorOthers", inPlace := ["math.archTrunc", "math.Float64bits", "math.Float64frombits"], unfollowed := true, recurses := true, apart := false, narrowed := true }
def RotorOthersUptoSaid : Prop := rotorOthersUptoRow.holds Try.pinned (OpenSpec.upto rotorOthersSpec)

/-- 'septumlaw13.RotorDoes', WHERE WHAT IT READS IS OF BULK AT MOST 1048576: true; the input reads as it did. -/
def rotorDoesUptoRow : OpenClaim := { program := "ytelmkfpomeilpaa", sum := "3bf31f013e3dc3897f0ade72303b22cf76bae430340bb062649ae07034b51951", func := "septum/septumlaw13.RotorDoes", spec := "rotorDoes", inPlace := ["math.archTrunc", "math.Float64bits", "math.Float64frombits"], unfollowed := true, recurses := true, apart := false, narrowed := true }
def RotorDoesUptoSaid : Prop := rotorDoesUptoRow.holds Try.pinned (OpenSpec.upto rotorDoesSpec)

/-- 'septumlaw13.RotorEnds', WHERE WHAT IT READS IS OF BULK AT MOST 1048576: true; the input reads as it did. -/
def rotorEndsUptoRow : OpenClaim := { program := "ytelmkfpomeilpaa", sum := "3bf31f013e3dc3897f0ade72303b22cf76bae430340bb062649ae07034b51951", func := "septum/septumlaw13.RotorEnds", spec := "rotorEnds", inPlace := ["math.archTrunc", "math.Float64bits", "math.Float64frombits"], unfollowed := true, recurses := true, apart := false, narrowed := true }
def RotorEndsUptoSaid : Prop := rotorEndsUptoRow.holds Try.pinned (OpenSpec.upto rotorEndsSpec)

/-- 'septumlaw13.RotorRing', WHERE WHAT IT READS IS OF BULK AT MOST 1048576: true; the input reads as it did. -/
def rotorRingUptoRow : OpenClaim := { program := "ytelmkfpomeilpaa", sum := "3bf31f013e3dc3897f0ade72303b22cf76bae430340bb062649ae07034b51951", func := "septum/septumlaw13.RotorRing", spec := "rotorRing", inPlace := ["math.archTrunc", "math.Float64bits", "math.Float64frombits"], unfollowed := true, recurses := true, apart := false, narrowed := true }
def RotorRingUptoSaid : Prop := rotorRingUptoRow.holds Try.pinned (OpenSpec.upto rotorRingSpec)

/-- 'septumlaw13.RotorTurns', WHERE WHAT IT READS IS OF BULK AT MOST 1048576: true; the input reads as it did. -/
def rotorTurnsUptoRow : OpenClaim := { program := "ytelmkfpomeilpaa", sum := "3bf31f013e3dc3897f0ade72303b22cf76bae430340bb062649ae07034b51951", func := "septum/septumlaw13.RotorTurns", spec := "rotorTurns", inPlace := ["math.archTrunc", "math.Float64bits", "math.Float64frombits"], unfollowed := true, recurses := true, apart := false, narrowed := true }
def RotorTurnsUptoSaid : Prop := rotorTurnsUptoRow.holds Try.pinned (OpenSpec.upto rotorTurnsSpec)

end Rows
end Go.Proofs.Ytelmkfpomeilpaa
