/- A row and the document's side by side. -/
import Derived.Test.YtmdepkehpohgeaaS6w
import Derived.Test.YtmdepkehpohgeaaS6v
import Derived.Test.YtmdepkehpohgeaaS6d
import Derived.Handy
namespace Go.Proofs.Ytmdepkehpohgeaa.Scr
open Go.RowKit Go.Maps Go.ChangeShapes Go.WideShapes Go.ChangeAt Fifo Orow Word
set_option linter.unusedVariables false

abbrev at0 (a : Nat) : Value := .pointer (some ⟨a, 0, none⟩)
theorem below_onlyS {K : Nat → Prop} {B : Nat} {w w1 w2 : World} (h : Below B w w1) (ho : Only (fun j => ¬ K j) w1 w2) (hB : B ≤ w.heap.size) (hK : ∀ j, j < B → K j) : Below B w w2 :=
  h.trans (ho.below (Nat.le_trans hB h.size) (fun j hj => Nat.le_of_not_lt (fun e => hj (hK j e))))
end Go.Proofs.Ytmdepkehpohgeaa.Scr
