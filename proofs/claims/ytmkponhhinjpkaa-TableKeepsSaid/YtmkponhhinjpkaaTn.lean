/- Of no element nothing is put in order. -/
import Derived.Test.YtmkponhhinjpkaaShT
import Derived.Shelf.SlSortCmp.NoneTotal
namespace Go.Proofs.Ytmkponhhinjpkaa.Table
open Go.RowKit Go.Shelf
theorem sort_none (p : Option Addr) (cap : Nat) (fv : Value) (w : World) :
    Calls Try.prog 36 #[.slice p 0 cap, fv] w fun e w' => e = .returned (.tuple #[]) ∧ w' = w :=
  AnyF.slices_SortFunc_none Try.sortNum p cap fv w
end Go.Proofs.Ytmkponhhinjpkaa.Table
