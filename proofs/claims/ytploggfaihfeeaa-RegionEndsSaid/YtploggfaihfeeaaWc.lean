/- Contracts of package word's numerals: the digit's closure, number, Parse. -/
import Derived.Test.YtploggfaihfeeaaWb
import Derived.PlainAid
namespace Go.Proofs.Ytploggfaihfeeaa.Word
open Go.RowKit Go.PlainAid
set_option linter.unusedVariables false

theorem cell_old {w : World} {a : Addr} {v : Value} (o : Obj) (h : w.cell? a = some v) : (w.alloc o).cell? a = some v := by
  have hb : a.block < w.heap.size := by
    simp only [World.cell?] at h
    cases hh : w.heap[a.block]? with
    | none => rw [hh] at h; cases h
    | some o => exact (Array.getElem?_eq_some_iff.1 hh).1
  rw [World.cell?_of_block (w := w) (Below.heap_alloc w o a.block hb)]
  exact h
end Go.Proofs.Ytploggfaihfeeaa.Word
