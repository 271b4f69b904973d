/-
  No cell of these rows narrows 'for every input' (looked for: loops, veiled, ifaces, maps, wideKeys, modest, calm, conditions, laid).
  DERIVED. THE GIVEN ROWS OF THIS SEAT. 4 by the template 'for every input the law returns true; each argument reads behind the call as it read before'; 0 by the template 'total and deterministic' (their statements: YthdcealhhmfgcaaTotals.lean).
  GIVEN WITH THE SEED: the statements are not yours to turn. If you find one false, say at which input.
  Laid BY PROGRAM, IN A SANDBOX (cutbox-rows.mjs): the forced cells as the released guide's own fill.sh prints them over the translation 8874fccfcd8f8c5d… (all of the seat's roots in one cut). By AI agents, Wed Nov 11 2026. No macro, syntax, notation, axiom, sorry.
-/
import Derived.Test.YthdcealhhmfgcaaChecked
import GoSem.Claim
import GoSem.ClaimJoined
import GoSem.ClaimMapViews
import Derived.JoinedTies
import Derived.KernelRfl
namespace Go.Proofs.Ythdcealhhmfgcaa
/- THE CELL 'sum', in the pinned program and in every row, IS THE sha256 OF THE DUMP (.gsa) THAT YthdcealhhmfgcaaProg.lean LOADS. Nothing in Lean hashes anything: it is a label: what it is worth is what the hold of that sum in a sandbox is worth. -/
noncomputable def Try.pinned : Pinned := { name := "ythdcealhhmfgcaa", sum := "8874fccfcd8f8c5d65e788f2515258b95db621194375524a9ccc5f0a386c7872", checked := Try.checked }
namespace Rows
def none {H : Type} : Left H := { results := [], args := [] }

/-- 'septumlaw11.UartDoes': WHATEVER THE INPUT: true; the input reads as it did. -/
def uartDoesSpec : ChangeSpec := { name := "uartDoes", fn := fun _ => fun
  | [d] => { results := [.lit (.bool true)], args := [d] }
  | _ => none }
def uartDoesRow : OpenClaim := { program := "ythdcealhhmfgcaa", sum := "8874fccfcd8f8c5d65e788f2515258b95db621194375524a9ccc5f0a386c7872", func := "septum/septumlaw11.UartDoes", spec := "uartDoes", unfollowed := true, recurses := true, apart := false }
def UartDoesSaid : Prop := uartDoesRow.holds Try.pinned (OpenSpec.ofChange uartDoesSpec)

/-- ITS FALSE NEIGHBOUR: 'it returns false'. Refute it at one input. -/
def uartDoesWrong : ChangeSpec := { name := "uartDoes", fn := fun _ => fun
  | [d] => { results := [.lit (.bool false)], args := [d] }
  | _ => none }
def UartDoesWrongFalsely : Prop := uartDoesRow.holds Try.pinned (OpenSpec.ofChange uartDoesWrong)

/-- 'septumlaw11.UartEnds': WHATEVER THE INPUT: true; the input reads as it did. -/
def uartEndsSpec : ChangeSpec := { name := "uartEnds", fn := fun _ => fun
  | [] => { results := [.lit (.bool true)], args := [] }
  | _ => none }
def uartEndsRow : OpenClaim := { program := "ythdcealhhmfgcaa", sum := "8874fccfcd8f8c5d65e788f2515258b95db621194375524a9ccc5f0a386c7872", func := "septum/septumlaw11.UartEnds", spec := "uartEnds", unfollowed := true, recurses := true, apart := false }
def UartEndsSaid : Prop := uartEndsRow.holds Try.pinned (OpenSpec.ofChange uartEndsSpec)

/-- ITS FALSE NEIGHBOUR: 'it returns false'. Refute it at one input. -/
def uartEndsWrong : ChangeSpec := { name := "uartEnds", fn := fun _ => fun
  | [] => { results := [.lit (.bool false)], args := [] }
  | _ => none }
def UartEndsWrongFalsely : Prop := uartEndsRow.holds Try.pinned (OpenSpec.ofChange uartEndsWrong)

/-- 'septumlaw11.UartOrder': WHATEVER THE INPUT: true; the input reads as it did. -/
def uartOrderSpec : ChangeSpec := { name := "uartOrder", fn := fun _ => fun
  | [d1, d2] => { results := [.lit (.bool true)], args := [d1, d2] }
  | _ => none }
def uartOrderRow : OpenClaim := { program := "ythdcealhhmfgcaa", sum := "8874fccfcd8f8c5d65e788f2515258b95db621194375524a9ccc5f0a386c7872", func := "septum/septumlaw11.UartOrder", spec := "uartOrder", unfollowed := true, recurses := true, apart := false }
def UartOrderSaid : Prop := uartOrderRow.holds Try.pinned (OpenSpec.ofChange uartOrderSpec)

/-- ITS FALSE NEIGHBOUR: 'it returns false'. Refute it at one input. -/
def uartOrderWrong : ChangeSpec := { name := "uartOrder", fn := fun _ => fun
  | [d1, d2] => { results := [.lit (.bool false)], args := [d1, d2] }
  | _ => none }
def UartOrderWrongFalsely : Prop := uartOrderRow.holds Try.pinned (OpenSpec.ofChange uartOrderWrong)

/-- 'septumlaw11.UartGoes': WHATEVER THE INPUT: true; the input reads as it did. -/
def uartGoesSpec : ChangeSpec := { name := "uartGoes", fn := fun _ => fun
  | [d1, d2] => { results := [.lit (.bool true)], args := [d1, d2] }
  | _ => none }
def uartGoesRow : OpenClaim := { program := "ythdcealhhmfgcaa", sum := "8874fccfcd8f8c5d65e788f2515258b95db621194375524a9ccc5f0a386c7872", func := "septum/septumlaw11.UartGoes", spec := "uartGoes", unfollowed := true, recurses := true, apart := false }
def UartGoesSaid : Prop := uartGoesRow.holds Try.pinned (OpenSpec.ofChange uartGoesSpec)

/-- ITS FALSE NEIGHBOUR: 'it returns false'. Refute it at one input. -/
def uartGoesWrong : ChangeSpec := { name := "uartGoes", fn := fun _ => fun
  | [d1, d2] => { results := [.lit (.bool false)], args := [d1, d2] }
  | _ => none }
def UartGoesWrongFalsely : Prop := uartGoesRow.holds Try.pinned (OpenSpec.ofChange uartGoesWrong)

/- THE SECOND FORM. 'bulk': how many values and letters a reading holds, each counted each time it is reached (what is shared counts as often as it is met; a slice's spare places count too). A statement '..UptoSaid' is the law's where the arguments, and the package variables that the reading takes, are together of bulk at most 1048576: NARROWER than '..Said'. Prove '..Said' where nothing that the law and all that it calls make is longer than what came in: it says more and counts as full. Else prove '..UptoSaid'. A law counts once. -/
mutual
def uptoBulk {H : Type} : DataW H → Nat
  | .lit (.string bytes) => bytes.length + 1
  | .lit _ => 1
  | .nil => 1
  | .ptr d => uptoBulk d + 1
  | .slice elems spare => uptoBulkAll elems + uptoBulkAll spare + 1
  | .agg parts => uptoBulkAll parts + 1
  | .iface _ d => uptoBulk d + 1
  | .map entries => uptoBulkEntries entries + 1
  | .held _ => 1
def uptoBulkAll {H : Type} : List (DataW H) → Nat
  | [] => 0
  | d :: r => uptoBulk d + uptoBulkAll r
def uptoBulkEntries {H : Type} : List (Lit × DataW H) → Nat
  | [] => 0
  | x :: r => uptoBulkEntry x + uptoBulkEntries r
def uptoBulkEntry {H : Type} : Lit × DataW H → Nat
  | (.string bytes, d) => bytes.length + uptoBulk d + 1
  | (_, d) => uptoBulk d + 1
 end
def uptoSmall : (H : Type) → List (DataW H) → Bool := fun _ ds => decide (uptoBulkAll ds ≤ 1048576)
def OpenSpec.upto (s : _root_.Go.ChangeSpec) : _root_.Go.OpenSpec := { _root_.Go.OpenSpec.ofChange s with cond := some uptoSmall }

/-- 'septumlaw11.UartDoes', WHERE WHAT IT READS IS OF BULK AT MOST 1048576: true; the input reads as it did. -/
def uartDoesUptoRow : OpenClaim := { program := "ythdcealhhmfgcaa", sum := "8874fccfcd8f8c5d65e788f2515258b95db621194375524a9ccc5f0a386c7872", func := "septum/septumlaw11.UartDoes", spec := "uartDoes", unfollowed := true, recurses := true, apart := false, narrowed := true }
def UartDoesUptoSaid : Prop := uartDoesUptoRow.holds Try.pinned (OpenSpec.upto uartDoesSpec)

/-- 'septumlaw11.UartEnds', WHERE WHAT IT READS IS OF BULK AT MOST 1048576: true; the input reads as it did. -/
def uartEndsUptoRow : OpenClaim := { program := "ythdcealhhmfgcaa", sum := "8874fccfcd8f8c5d65e788f2515258b95db621194375524a9ccc5f0a386c7872", func := "septum/septumlaw11.UartEnds", spec := "uartEnds", unfollowed := true, recurses := true, apart := false, narrowed := true }
def UartEndsUptoSaid : Prop := uartEndsUptoRow.holds Try.pinned (OpenSpec.upto uartEndsSpec)

/-- 'septumlaw11.UartOrder', WHERE WHAT IT READS IS OF BULK AT MOST 1048576: true; the input reads as it did. -/
def uartOrderUptoRow : OpenClaim := { program := "ythdcealhhmfgcaa", sum := "8874fccfcd8f8c5d65e788f2515258b95db621194375524a9ccc5f0a386c7872", func := "septum/septumlaw11.UartOrder", spec := "uartOrder", unfollowed := true, recurses := true, apart := false, narrowed := true }
def UartOrderUptoSaid : Prop := uartOrderUptoRow.holds Try.pinned (OpenSpec.upto uartOrderSpec)

/-- 'septumlaw11.UartGoes', WHERE WHAT IT READS IS OF BULK AT MOST 1048576: true; the input reads as it did. -/
def uartGoesUptoRow : OpenClaim := { program := "ythdcealhhmfgcaa", sum := "8874fccfcd8f8c5d65e788f2515258b95db621194375524a9ccc5f0a386c7872", func := "septum/septumlaw11.UartGoes", spec := "uartGoes", unfollowed := true, recurses := true, apart := false, narrowed := true }
def UartGoesUptoSaid : Prop := uartGoesUptoRow.holds Try.pinned (OpenSpec.upto uartGoesSpec)

end Rows
end Go.Proofs.Ythdcealhhmfgcaa
