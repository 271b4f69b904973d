/- Package window's Right, of a row of any length. -/
import Derived.Test.YtmdepkehpohgeaaGreatYd
namespace Go.Proofs.YtmdepkehpohgeaaGreat.Win
open Go.RowKit Go.Maps Go.ChangeShapes Go.WideShapes Go.ChangeAt Fifo Orow
set_option linter.unusedVariables false

theorem Right_wide (a : Option Addr) (n cap : Nat) (l : List Dv) (b : Bool) (w : World) (hn : n < 140737488355328) (hc : n ≤ cap) (h : RowV w a n l) (hb : rowB l = b) :
    Calls Tryz.prog 25 #[.slice a n cap] w fun e w' => e = .returned (.bool b) ∧ Below w.heap.size w w' := by
  have HW := Lib.hid (windows_any a n cap l w hn h)
  clear h
  go_enter Tryz.func25, Tryz.ntmps25
  go_wp2_with fail
  refine HW.out.mono ?_
  rintro e w1 ⟨⟨rfl, hr⟩ | ⟨rfl, hr, hR, hlt⟩, hb1⟩
  all_goals
    have B1 := Lib.hid hb1
    have hbb := Lib.hid (hb.symm.trans hr)
    clear hb1 hr hb HW
    go_wp2_with fail
    go_ret
    exact ⟨Reach.ret_bool hbb.out.symm, B1.out⟩

end Go.Proofs.YtmdepkehpohgeaaGreat.Win
