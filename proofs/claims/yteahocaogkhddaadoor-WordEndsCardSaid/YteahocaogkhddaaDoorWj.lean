/- From the given list of laid tables to the walks' fact on package word's digits. -/
import Derived.Test.YteahocaogkhddaaDoorWc
import Derived.Lib.LaidTab
namespace Go.Proofs.YteahocaogkhddaaDoor.Word
open Go.RowKit

def digitsL : List Int := [48, 49, 50, 51, 52, 53, 54, 55, 56, 57, 97, 98, 99, 100, 101, 102]
theorem tab_of {W : World} (h : Lib.TabIs Tryd.prog W "septum/word.digits" .u8 digitsL) : Tab W := fun i hi => by
  have g : Tryd.prog.globalNamed "septum/word.digits" = some 0 := by kernel_rfl
  have c := h.cell g i hi
  rw [c]
  have e : ∀ j, j < 16 → digitsL.getD j 0 = dch j := by decide
  rw [e i hi]
end Go.Proofs.YteahocaogkhddaaDoor.Word
