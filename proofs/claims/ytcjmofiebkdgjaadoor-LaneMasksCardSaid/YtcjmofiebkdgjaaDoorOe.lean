/- From the given list of laid tables to the walks' fact on the library's table of trailing zeros. -/
import Derived.Test.YtcjmofiebkdgjaaDoorOb
import Derived.Lib.LaidTab
namespace Go.Proofs.YtcjmofiebkdgjaaDoor.Word
open Go.RowKit

def zerosL : List Int := [0, 1, 28, 2, 29, 14, 24, 3, 30, 22, 20, 15, 25, 17, 4, 8, 31, 27, 13, 23, 21, 19, 16, 7, 26, 12, 18, 6, 11, 5, 10, 9]
theorem tabz_of {W : World} (h : Lib.TabIs Tryd.prog W "math/bits.deBruijn32tab" .u8 zerosL) : TabZ W := fun i hi => by
  have g : Tryd.prog.globalNamed "math/bits.deBruijn32tab" = some 1 := by kernel_rfl
  have c := h.cell g i hi
  rw [c]
  have e : ∀ j, j < 32 → zerosL.getD j 0 = ((Lib.deBruijn32tab.getD j 0 : Nat) : Int) := by decide
  rw [e i hi]
end Go.Proofs.YtcjmofiebkdgjaaDoor.Word
