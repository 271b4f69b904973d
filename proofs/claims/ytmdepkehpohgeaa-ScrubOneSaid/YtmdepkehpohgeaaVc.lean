/- The document's windows: Reach, Right. -/
import Derived.Test.YtmdepkehpohgeaaVb
namespace Go.Proofs.Ytmdepkehpohgeaa.Win
open Go.RowKit Go.Maps Fifo Orow
open Go.Proofs.Ytmdepkehpohgeaa.Reach (ret_bool Two two_new alloc_keep bcell)
set_option linter.unusedVariables false

theorem of_dev {k B S O L : Int} (h : devV k B S O L = true) : Reach.ofF B S = winF true B ∧ Reach.ofT B S = winT true B S ∧ Reach.ofB B S = true := by
  have hp := dev_parts h
  have e : 1 ≤ S ∧ B + S ≤ 4294967296 := by omega
  exact ⟨if_pos e, if_pos e, decide_eq_true e⟩
end Go.Proofs.Ytmdepkehpohgeaa.Win
