/-
  NARROWER THAN 'FOR EVERY INPUT', by the rows' own cells (each row's printed sentence says how): LanePlaces: laid · LaneMoves: laid · LaneEnds: laid · LaneBack: laid · LaneMasks: laid.
  DERIVED. THE GIVEN ROWS OF THIS SEAT. 5 by the template 'for every input the law returns true; each argument reads behind the call as it read before'; 0 by the template 'total and deterministic' (their statements: YtcjmofiebkdgjaaDoorTotals.lean).
  GIVEN WITH THE SEED: the statements are not yours to turn. If you find one false, say at which input.
  Laid BY PROGRAM, IN A SANDBOX (cutbox-rows.mjs): the forced cells as the released guide's own fill.sh prints them over the translation aef7fdd58253c488… (all of the seat's roots in one cut). By AI agents, Wed Nov 11 2026. No macro, syntax, notation, axiom, sorry.
-/
import Derived.Test.YtcjmofiebkdgjaaDoorChecked
import GoSem.Claim
import GoSem.ClaimJoined
import GoSem.ClaimMapViews
import Derived.JoinedTies
import Derived.KernelRfl
namespace Go.Proofs.YtcjmofiebkdgjaaDoor
/- THE CELL 'sum', in the pinned program and in every row, IS THE sha256 OF THE DUMP (.gsa) THAT YtcjmofiebkdgjaaDoorProg.lean LOADS. Nothing in Lean hashes anything: it is a label: what it is worth is what the hold of that sum in a sandbox is worth. -/
noncomputable def Tryd.pinned : Pinned := { name := "ytcjmofiebkdgjaadoor", sum := "aef7fdd58253c488ed64ce4fa0d3343bb6f05b131a489bbd87d139119295af72", checked := Tryd.checked }
namespace Rows
def none {H : Type} : Left H := { results := [], args := [] }

/- WHAT THE LISTED PACKAGE-LEVEL VARIABLES READ AS WHEN THE CALL BEGINS. Each datum BY PROGRAM (the guide's laid-datum.mjs) off the statement by which the dump's own 'gosem.cut.vars' lays the variable. In a bare row this is a premise. The card (YtcjmofiebkdgjaaDoorCards.lean) ties it to the program's text. -/
def laid_septum_lane_wide {H : Type} : DataW H := .agg [.lit (.int .u32 255), .lit (.int .u32 65280), .lit (.int .u32 16711680), .lit (.int .u32 4278190080)]
def laid_math_bits_deBruijn32tab {H : Type} : DataW H := .agg [.lit (.int .u8 0), .lit (.int .u8 1), .lit (.int .u8 28), .lit (.int .u8 2), .lit (.int .u8 29), .lit (.int .u8 14), .lit (.int .u8 24), .lit (.int .u8 3), .lit (.int .u8 30), .lit (.int .u8 22), .lit (.int .u8 20), .lit (.int .u8 15), .lit (.int .u8 25), .lit (.int .u8 17), .lit (.int .u8 4), .lit (.int .u8 8), .lit (.int .u8 31), .lit (.int .u8 27), .lit (.int .u8 13), .lit (.int .u8 23), .lit (.int .u8 21), .lit (.int .u8 19), .lit (.int .u8 16), .lit (.int .u8 7), .lit (.int .u8 26), .lit (.int .u8 12), .lit (.int .u8 18), .lit (.int .u8 6), .lit (.int .u8 11), .lit (.int .u8 5), .lit (.int .u8 10), .lit (.int .u8 9)]

/-- 'septumlaw03.LanePlaces': WHATEVER THE INPUT: true; the input reads as it did. -/
def lanePlacesSpec : ChangeSpec := { name := "lanePlaces", fn := fun _ => fun
  | [d1, d2, d3] => { results := [.lit (.bool true)], args := [d1, d2, d3] }
  | _ => none }
def lanePlacesRow : OpenClaim := { program := "ytcjmofiebkdgjaadoor", sum := "aef7fdd58253c488ed64ce4fa0d3343bb6f05b131a489bbd87d139119295af72", func := "septum/septumlaw03.LanePlaces", spec := "lanePlaces", unfollowed := true, recurses := true, named := ["septum/lane.wide"], apart := false, laid := [("septum/lane.wide", laid_septum_lane_wide)] }
def LanePlacesSaid : Prop := lanePlacesRow.holds Tryd.pinned (OpenSpec.ofChange lanePlacesSpec)

/-- ITS FALSE NEIGHBOUR: 'it returns false'. Refute it at one input. -/
def lanePlacesWrong : ChangeSpec := { name := "lanePlaces", fn := fun _ => fun
  | [d1, d2, d3] => { results := [.lit (.bool false)], args := [d1, d2, d3] }
  | _ => none }
def LanePlacesWrongFalsely : Prop := lanePlacesRow.holds Tryd.pinned (OpenSpec.ofChange lanePlacesWrong)

/-- 'septumlaw03.LaneMoves': WHATEVER THE INPUT: true; the input reads as it did. -/
def laneMovesSpec : ChangeSpec := { name := "laneMoves", fn := fun _ => fun
  | [d1, d2, d3, d4] => { results := [.lit (.bool true)], args := [d1, d2, d3, d4] }
  | _ => none }
def laneMovesRow : OpenClaim := { program := "ytcjmofiebkdgjaadoor", sum := "aef7fdd58253c488ed64ce4fa0d3343bb6f05b131a489bbd87d139119295af72", func := "septum/septumlaw03.LaneMoves", spec := "laneMoves", unfollowed := true, recurses := true, named := ["septum/lane.wide"], apart := false, laid := [("septum/lane.wide", laid_septum_lane_wide)] }
def LaneMovesSaid : Prop := laneMovesRow.holds Tryd.pinned (OpenSpec.ofChange laneMovesSpec)

/-- ITS FALSE NEIGHBOUR: 'it returns false'. Refute it at one input. -/
def laneMovesWrong : ChangeSpec := { name := "laneMoves", fn := fun _ => fun
  | [d1, d2, d3, d4] => { results := [.lit (.bool false)], args := [d1, d2, d3, d4] }
  | _ => none }
def LaneMovesWrongFalsely : Prop := laneMovesRow.holds Tryd.pinned (OpenSpec.ofChange laneMovesWrong)

/-- 'septumlaw03.LaneEnds': WHATEVER THE INPUT: true; the input reads as it did. -/
def laneEndsSpec : ChangeSpec := { name := "laneEnds", fn := fun _ => fun
  | [] => { results := [.lit (.bool true)], args := [] }
  | _ => none }
def laneEndsRow : OpenClaim := { program := "ytcjmofiebkdgjaadoor", sum := "aef7fdd58253c488ed64ce4fa0d3343bb6f05b131a489bbd87d139119295af72", func := "septum/septumlaw03.LaneEnds", spec := "laneEnds", unfollowed := true, recurses := true, named := ["septum/lane.wide"], apart := false, laid := [("septum/lane.wide", laid_septum_lane_wide)] }
def LaneEndsSaid : Prop := laneEndsRow.holds Tryd.pinned (OpenSpec.ofChange laneEndsSpec)

/-- ITS FALSE NEIGHBOUR: 'it returns false'. Refute it at one input. -/
def laneEndsWrong : ChangeSpec := { name := "laneEnds", fn := fun _ => fun
  | [] => { results := [.lit (.bool false)], args := [] }
  | _ => none }
def LaneEndsWrongFalsely : Prop := laneEndsRow.holds Tryd.pinned (OpenSpec.ofChange laneEndsWrong)

/-- 'septumlaw03.LaneBack': WHATEVER THE INPUT: true; the input reads as it did. -/
def laneBackSpec : ChangeSpec := { name := "laneBack", fn := fun _ => fun
  | [d1, d2, d3, d4, d5, d6] => { results := [.lit (.bool true)], args := [d1, d2, d3, d4, d5, d6] }
  | _ => none }
def laneBackRow : OpenClaim := { program := "ytcjmofiebkdgjaadoor", sum := "aef7fdd58253c488ed64ce4fa0d3343bb6f05b131a489bbd87d139119295af72", func := "septum/septumlaw03.LaneBack", spec := "laneBack", unfollowed := true, recurses := true, named := ["septum/lane.wide"], apart := false, laid := [("septum/lane.wide", laid_septum_lane_wide)] }
def LaneBackSaid : Prop := laneBackRow.holds Tryd.pinned (OpenSpec.ofChange laneBackSpec)

/-- ITS FALSE NEIGHBOUR: 'it returns false'. Refute it at one input. -/
def laneBackWrong : ChangeSpec := { name := "laneBack", fn := fun _ => fun
  | [d1, d2, d3, d4, d5, d6] => { results := [.lit (.bool false)], args := [d1, d2, d3, d4, d5, d6] }
  | _ => none }
def LaneBackWrongFalsely : Prop := laneBackRow.holds Tryd.pinned (OpenSpec.ofChange laneBackWrong)

/-- 'septumlaw03.LaneMasks': WHATEVER THE INPUT: true; the input reads as it did. -/
def laneMasksSpec : ChangeSpec := { name := "laneMasks", fn := fun _ => fun
  | [d1, d2, d3] => { results := [.lit (.bool true)], args := [d1, d2, d3] }
  | _ => none }
def laneMasksRow : OpenClaim := { program := "ytcjmofiebkdgjaadoor", sum := "aef7fdd58253c488ed64ce4fa0d3343bb6f05b131a489bbd87d139119295af72", func := "septum/septumlaw03.LaneMasks", spec := "laneMasks", unfollowed := true, recurses := true, named := ["septum/lane.wide", "math/bits.deBruijn32tab"], apart := false, laid := [("math/bits.deBruijn32tab", laid_math_bits_deBruijn32tab), ("septum/lane.wide", laid_septum_lane_wide)] }
def LaneMasksSaid : Prop := laneMasksRow.holds Tryd.pinned (OpenSpec.ofChange laneMasksSpec)

/-- ITS FALSE NEIGHBOUR: 'it returns false'. Refute it at one input. -/
def laneMasksWrong : ChangeSpec := { name := "laneMasks", fn := fun _ => fun
  | [d1, d2, d3] => { results := [.lit (.bool false)], args := [d1, d2, d3] }
  | _ => none }
def LaneMasksWrongFalsely : Prop := laneMasksRow.holds Tryd.pinned (OpenSpec.ofChange laneMasksWrong)

/- THE SECOND FORM. 'bulk': how many values and letters a reading holds, each counted each time it is reached (what is shared counts as often as it is met; a slice's spare places count too). A statement '..UptoSaid' is the law's where the arguments, and the package variables that the reading takes, are together of bulk at most 1048576: NARROWER than '..Said'. Prove '..Said' where nothing that the law and all that it calls make is longer than what came in: it says more and counts as full. Else prove '..UptoSaid'. A law counts once. -/
mutual
def uptoBulk {H : Type} : DataW H → Nat
  | .lit (.string bytes) => bytes.length + 1
  | .lit _ => 1
  | .nil => 1
  | .ptr d => uptoBulk d + 1
  | .slice elems spare => uptoBulkAll elems + uptoBulkAll spare + 1
  | .agg parts => uptoBulkAll parts + 1
  | .iface _ d => uptoBulk d + 1
  | .map entries => uptoBulkEntries entries + 1
  | .held _ => 1
def uptoBulkAll {H : Type} : List (DataW H) → Nat
  | [] => 0
  | d :: r => uptoBulk d + uptoBulkAll r
def uptoBulkEntries {H : Type} : List (Lit × DataW H) → Nat
  | [] => 0
  | x :: r => uptoBulkEntry x + uptoBulkEntries r
def uptoBulkEntry {H : Type} : Lit × DataW H → Nat
  | (.string bytes, d) => bytes.length + uptoBulk d + 1
  | (_, d) => uptoBulk d + 1
 end
def uptoSmall : (H : Type) → List (DataW H) → Bool := fun _ ds => decide (uptoBulkAll ds ≤ 1048576)
def OpenSpec.upto (s : _root_.Go.ChangeSpec) : _root_.Go.OpenSpec := { _root_.Go.OpenSpec.ofChange s with cond := some uptoSmall }

/-- 'septumlaw03.LanePlaces', WHERE WHAT IT READS IS OF BULK AT MOST 1048576: true; the input reads as it did. -/
def lanePlacesUptoRow : OpenClaim := { program := "ytcjmofiebkdgjaadoor", sum := "aef7fdd58253c488ed64ce4fa0d3343bb6f05b131a489bbd87d139119295af72", func := "septum/septumlaw03.LanePlaces", spec := "lanePlaces", unfollowed := true, recurses := true, named := ["septum/lane.wide"], apart := false, laid := [("septum/lane.wide", laid_septum_lane_wide)], narrowed := true }
def LanePlacesUptoSaid : Prop := lanePlacesUptoRow.holds Tryd.pinned (OpenSpec.upto lanePlacesSpec)

/-- 'septumlaw03.LaneMoves', WHERE WHAT IT READS IS OF BULK AT MOST 1048576: true; the input reads as it did. -/
def laneMovesUptoRow : OpenClaim := { program := "ytcjmofiebkdgjaadoor", sum := "aef7fdd58253c488ed64ce4fa0d3343bb6f05b131a489bbd87d139119295af72", func := "septum/septumlaw03.LaneMoves", spec := "laneMoves", unfollowed := true, recurses := true, named := ["septum/lane.wide"], apart := false, laid := [("septum/lane.wide", laid_septum_lane_wide)], narrowed := true }
def LaneMovesUptoSaid : Prop := laneMovesUptoRow.holds Tryd.pinned (OpenSpec.upto laneMovesSpec)

/-- 'septumlaw03.LaneEnds', WHERE WHAT IT READS IS OF BULK AT MOST 1048576: true; the input reads as it did. -/
def laneEndsUptoRow : OpenClaim := { program := "ytcjmofiebkdgjaadoor", sum := "aef7fdd58253c488ed64ce4fa0d3343bb6f05b131a489bbd87d139119295af72", func := "septum/septumlaw03.LaneEnds", spec := "laneEnds", unfollowed := true, recurses := true, named := ["septum/lane.wide"], apart := false, laid := [("septum/lane.wide", laid_septum_lane_wide)], narrowed := true }
def LaneEndsUptoSaid : Prop := laneEndsUptoRow.holds Tryd.pinned (OpenSpec.upto laneEndsSpec)

/-- 'septumlaw03.LaneBack', WHERE WHAT IT READS IS OF BULK AT MOST 1048576: true; the input reads as it did. -/
def laneBackUptoRow : OpenClaim := { program := "ytcjmofiebkdgjaadoor", sum := "aef7fdd58253c488ed64ce4fa0d3343bb6f05b131a489bbd87d139119295af72", func := "septum/septumlaw03.LaneBack", spec := "laneBack", unfollowed := true, recurses := true, named := ["septum/lane.wide"], apart := false, laid := [("septum/lane.wide", laid_septum_lane_wide)], narrowed := true }
def LaneBackUptoSaid : Prop := laneBackUptoRow.holds Tryd.pinned (OpenSpec.upto laneBackSpec)

/-- 'septumlaw03.LaneMasks', WHERE WHAT IT READS IS OF BULK AT MOST 1048576: true; the input reads as it did. -/
def laneMasksUptoRow : OpenClaim := { program := "ytcjmofiebkdgjaadoor", sum := "aef7fdd58253c488ed64ce4fa0d3343bb6f05b131a489bbd87d139119295af72", func := "septum/septumlaw03.LaneMasks", spec := "laneMasks", unfollowed := true, recurses := true, named := ["septum/lane.wide", "math/bits.deBruijn32tab"], apart := false, laid := [("math/bits.deBruijn32tab", laid_math_bits_deBruijn32tab), ("septum/lane.wide", laid_septum_lane_wide)], narrowed := true }
def LaneMasksUptoSaid : Prop := laneMasksUptoRow.holds Tryd.pinned (OpenSpec.upto laneMasksSpec)

end Rows
end Go.Proofs.YtcjmofiebkdgjaaDoor
