/- Of no element nothing is put in order. -/
import Derived.Test.YtmkponhhinjpkaaGreatShT
import Derived.Shelf.SlSortCmp.NoneTotal
namespace Go.Proofs.YtmkponhhinjpkaaGreat.Table
open Go.RowKit Go.Shelf
theorem sort_none (p : Option Addr) (cap : Nat) (fv : Value) (w : World) :
    Calls Tryz.prog 44 #[.slice p 0 cap, fv] w fun e w' => e = .returned (.tuple #[]) ∧ w' = w :=
  AnyF.slices_SortFunc_none Tryz.sortNum p cap fv w
end Go.Proofs.YtmkponhhinjpkaaGreat.Table
