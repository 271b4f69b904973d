/-
  No cell of these rows narrows 'for every input' (looked for: loops, veiled, ifaces, maps, wideKeys, modest, calm, conditions, laid).
  DERIVED. THE GIVEN ROWS OF THIS SEAT. 4 by the template 'for every input the law returns true; each argument reads behind the call as it read before'; 0 by the template 'total and deterministic' (their statements: YtploggfaihfeeaaTotals.lean).
  GIVEN WITH THE SEED: the statements are not yours to turn. If you find one false, say at which input.
  Laid BY PROGRAM, IN A SANDBOX (cutbox-rows.mjs): the forced cells as the released guide's own fill.sh prints them over the translation 4956d15bcf0322ed… (all of the seat's roots in one cut). By AI agents, Wed Nov 11 2026. No macro, syntax, notation, axiom, sorry.
-/
import Derived.Test.YtploggfaihfeeaaChecked
import GoSem.Claim
import GoSem.ClaimJoined
import GoSem.ClaimMapViews
import Derived.JoinedTies
import Derived.KernelRfl
namespace Go.Proofs.Ytploggfaihfeeaa
/- THE CELL 'sum', in the pinned program and in every row, IS THE sha256 OF THE DUMP (.gsa) THAT YtploggfaihfeeaaProg.lean LOADS. Nothing in Lean hashes anything: it is a label: what it is worth is what the hold of that sum in a sandbox is worth. -/
noncomputable def Try.pinned : Pinned := { name := "ytploggfaihfeeaa", sum := "4956d15bcf0322edaf4e06fc6ce1bf8d36b89fba983fd36197e3a157c3b1c6d4", checked := Try.checked }
namespace Rows
def none {H : Type} : Left H := { results := [], args := [] }

/-- 'septumlaw06.RegionAsks': WHATEVER THE INPUT: true; the input reads as it did. -/
def regionAsksSpec : ChangeSpec := { name := "regionAsks", fn := fun _ => fun
  | [d1, d2, d3] => { results := [.lit (.bool true)], args := [d1, d2, d3] }
  | _ => none }
def regionAsksRow : OpenClaim := { program := "ytploggfaihfeeaa", sum := "4956d15bcf0322edaf4e06fc6ce1bf8d36b89fba983fd36197e3a157c3b1c6d4", func := "septum/septumlaw06.RegionAsks", spec := "regionAsks", unfollowed := true, recurses := true, apart := false }
def RegionAsksSaid : Prop := regionAsksRow.holds Try.pinned (OpenSpec.ofChange regionAsksSpec)

/-- ITS FALSE NEIGHBOUR: 'it returns false'. Refute it at one input. -/
def regionAsksWrong : ChangeSpec := { name := "regionAsks", fn := fun _ => fun
  | [d1, d2, d3] => { results := [.lit (.bool false)], args := [d1, d2, d3] }
  | _ => none }
def RegionAsksWrongFalsely : Prop := regionAsksRow.holds Try.pinned (OpenSpec.ofChange regionAsksWrong)

/-- 'septumlaw06.RegionEnds': WHATEVER THE INPUT: true; the input reads as it did. -/
def regionEndsSpec : ChangeSpec := { name := "regionEnds", fn := fun _ => fun
  | [] => { results := [.lit (.bool true)], args := [] }
  | _ => none }
def regionEndsRow : OpenClaim := { program := "ytploggfaihfeeaa", sum := "4956d15bcf0322edaf4e06fc6ce1bf8d36b89fba983fd36197e3a157c3b1c6d4", func := "septum/septumlaw06.RegionEnds", spec := "regionEnds", unfollowed := true, recurses := true, apart := false }
def RegionEndsSaid : Prop := regionEndsRow.holds Try.pinned (OpenSpec.ofChange regionEndsSpec)

/-- ITS FALSE NEIGHBOUR: 'it returns false'. Refute it at one input. -/
def regionEndsWrong : ChangeSpec := { name := "regionEnds", fn := fun _ => fun
  | [] => { results := [.lit (.bool false)], args := [] }
  | _ => none }
def RegionEndsWrongFalsely : Prop := regionEndsRow.holds Try.pinned (OpenSpec.ofChange regionEndsWrong)

/-- 'septumlaw06.RegionClashes': WHATEVER THE INPUT: true; the input reads as it did. -/
def regionClashesSpec : ChangeSpec := { name := "regionClashes", fn := fun _ => fun
  | [d1, d2, d3, d4] => { results := [.lit (.bool true)], args := [d1, d2, d3, d4] }
  | _ => none }
def regionClashesRow : OpenClaim := { program := "ytploggfaihfeeaa", sum := "4956d15bcf0322edaf4e06fc6ce1bf8d36b89fba983fd36197e3a157c3b1c6d4", func := "septum/septumlaw06.RegionClashes", spec := "regionClashes", unfollowed := true, recurses := true, apart := false }
def RegionClashesSaid : Prop := regionClashesRow.holds Try.pinned (OpenSpec.ofChange regionClashesSpec)

/-- ITS FALSE NEIGHBOUR: 'it returns false'. Refute it at one input. -/
def regionClashesWrong : ChangeSpec := { name := "regionClashes", fn := fun _ => fun
  | [d1, d2, d3, d4] => { results := [.lit (.bool false)], args := [d1, d2, d3, d4] }
  | _ => none }
def RegionClashesWrongFalsely : Prop := regionClashesRow.holds Try.pinned (OpenSpec.ofChange regionClashesWrong)

/-- 'septumlaw06.RegionLess': WHATEVER THE INPUT: true; the input reads as it did. -/
def regionLessSpec : ChangeSpec := { name := "regionLess", fn := fun _ => fun
  | [d1, d2, d3] => { results := [.lit (.bool true)], args := [d1, d2, d3] }
  | _ => none }
def regionLessRow : OpenClaim := { program := "ytploggfaihfeeaa", sum := "4956d15bcf0322edaf4e06fc6ce1bf8d36b89fba983fd36197e3a157c3b1c6d4", func := "septum/septumlaw06.RegionLess", spec := "regionLess", unfollowed := true, recurses := true, apart := false }
def RegionLessSaid : Prop := regionLessRow.holds Try.pinned (OpenSpec.ofChange regionLessSpec)

/-- ITS FALSE NEIGHBOUR: 'it returns false'. Refute it at one input. -/
def regionLessWrong : ChangeSpec := { name := "regionLess", fn := fun _ => fun
  | [d1, d2, d3] => { results := [.lit (.bool false)], args := [d1, d2, d3] }
  | _ => none }
def RegionLessWrongFalsely : Prop := regionLessRow.holds Try.pinned (OpenSpec.ofChange regionLessWrong)

/- THE SECOND FORM. 'bulk': how many values and letters a reading holds, each counted each time it is reached (what is shared counts as often as it is met; a slice's spare places count too). A statement '..UptoSaid' is the law's where the arguments, and the package variables that the reading takes, are together of bulk at most 1048576: NARROWER than '..Said'. Prove '..Said' where nothing that the law and all that it calls make is longer than what came in: it says more and counts as full. Else prove '..UptoSaid'. A law counts once. -/
mutual
def uptoBulk {H : Type} : DataW H → Nat
  | .lit (.string bytes) => bytes.length + 1
  | .lit _ => 1
  | .nil => 1
  | .ptr d => uptoBulk d + 1
  | .slice elems spare => uptoBulkAll elems + uptoBulkAll spare + 1
  | .agg parts => uptoBulkAll parts + 1
  | .iface _ d => uptoBulk d + 1
  | .map entries => uptoBulkEntries entries + 1
  | .held _ => 1
def uptoBulkAll {H : Type} : List (DataW H) → Nat
  | [] => 0
  | d :: r => uptoBulk d + uptoBulkAll r
def uptoBulkEntries {H : Type} : List (Lit × DataW H) → Nat
  | [] => 0
  | x :: r => uptoBulkEntry x + uptoBulkEntries r
def uptoBulkEntry {H : Type} : Lit × DataW H → Nat
  | (.string bytes, d) => bytes.length + uptoBulk d + 1
  | (_, d) => uptoBulk d + 1
 end
def uptoSmall : (H : Type) → List (DataW H) → Bool := fun _ ds => decide (uptoBulkAll ds ≤ 1048576)
def OpenSpec.upto (s : _root_.Go.ChangeSpec) : _root_.Go.OpenSpec := { _root_.Go.OpenSpec.ofChange s with cond := some uptoSmall }

/-- 'septumlaw06.RegionAsks', WHERE WHAT IT READS IS OF BULK AT MOST 1048576: true; the input reads as it did. -/
def regionAsksUptoRow : OpenClaim := { program := "ytploggfaihfeeaa", sum := "4956d15bcf0322edaf4e06fc6ce1bf8d36b89fba983fd36197e3a157c3b1c6d4", func := "septum/septumlaw06.RegionAsks", spec := "regionAsks", unfollowed := true, recurses := true, apart := false, narrowed := true }
def RegionAsksUptoSaid : Prop := regionAsksUptoRow.holds Try.pinned (OpenSpec.upto regionAsksSpec)

/-- 'septumlaw06.RegionEnds', WHERE WHAT IT READS IS OF BULK AT MOST 1048576: true; the input reads as it did. -/
def regionEndsUptoRow : OpenClaim := { program := "ytploggfaihfeeaa", sum := "4956d15bcf0322edaf4e06fc6ce1bf8d36b89fba983fd36197e3a157c3b1c6d4", func := "septum/septumlaw06.RegionEnds", spec := "regionEnds", unfollowed := true, recurses := true, apart := false, narrowed := true }
def RegionEndsUptoSaid : Prop := regionEndsUptoRow.holds Try.pinned (OpenSpec.upto regionEndsSpec)

/-- 'septumlaw06.RegionClashes', WHERE WHAT IT READS IS OF BULK AT MOST 1048576: true; the input reads as it did. -/
def regionClashesUptoRow : OpenClaim := { program := "ytploggfaihfeeaa", sum := "4956d15bcf0322edaf4e06fc6ce1bf8d36b89fba983fd36197e3a157c3b1c6d4", func := "septum/septumlaw06.RegionClashes", spec := "regionClashes", unfollowed := true, recurses := true, apart := false, narrowed := true }
def RegionClashesUptoSaid : Prop := regionClashesUptoRow.holds Try.pinned (OpenSpec.upto regionClashesSpec)

/-- 'septumlaw06.RegionLess', WHERE WHAT IT READS IS OF BULK AT MOST 1048576: true; the input reads as it did. -/
def regionLessUptoRow : OpenClaim := { program := "ytploggfaihfeeaa", sum := "4956d15bcf0322edaf4e06fc6ce1bf8d36b89fba983fd36197e3a157c3b1c6d4", func := "septum/septumlaw06.RegionLess", spec := "regionLess", unfollowed := true, recurses := true, apart := false, narrowed := true }
def RegionLessUptoSaid : Prop := regionLessUptoRow.holds Try.pinned (OpenSpec.upto regionLessSpec)

end Rows
end Go.Proofs.Ytploggfaihfeeaa
