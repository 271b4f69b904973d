/- From the given list of laid tables to the walks' fact on package lane's wide lanes. -/
import Derived.Test.YtffjnahcdgpklaaDoorLn
import Derived.Lib.LaidTab
namespace Go.Proofs.YtffjnahcdgpklaaDoor.Lane
open Go.RowKit

def wideL : List Int := [255, 65280, 16711680, 4278190080]
theorem tabw_of {W : World} (h : Lib.TabIs Tryd.prog W "septum/lane.wide" .u32 wideL) : Tab W := fun i hi => by
  have g : Tryd.prog.globalNamed "septum/lane.wide" = some 0 := by kernel_rfl
  have c := h.cell g i hi
  rw [c]
  have e : ∀ j, j < 4 → wideL.getD j 0 = ((255 * 256 ^ j : Nat) : Int) := by decide
  rw [e i hi]
end Go.Proofs.YtffjnahcdgpklaaDoor.Lane
