/- Holds: structs that are compared. -/
import Derived.Test.YtmdepkehpohgeaaGreatS6a
import Derived.Test.YtmdepkehpohgeaaGreatSb
import Derived.Test.YtmdepkehpohgeaaGreatFa
import Derived.LaidEqlPtr
namespace Go.Proofs.YtmdepkehpohgeaaGreat.Scr
open Go.RowKit Go.Maps Go.ChangeShapes Go.WideShapes Go.ChangeAt Fifo Orow Word
set_option linter.unusedVariables false

abbrev hV (h : Hd) : Value := .agg #[.int .i64 h.o, .int .i64 h.l, .int .i64 h.n]
def eqH (h k : Hd) : Bool := h.o == k.o && (h.l == k.l && h.n == k.n)
theorem eqH_iff {h k : Hd} : eqH h k = true ↔ h = k := by
  obtain ⟨a, b, c⟩ := h
  obtain ⟨x, y, z⟩ := k
  simp [eqH]
theorem run_eqH (h k : Hd) (w : World) : (binOp .eql 52 (hV h) (hV k)).run Tryz.prog w = .ok (.bool (eqH h k)) w := by
  obtain ⟨a, b, c⟩ := h
  obtain ⟨x, y, z⟩ := k
  unfold eqH
  cases h1 : (a == x) <;> cases h2 : (b == y) <;> cases h3 : (c == z) <;> simp_all <;> go_simp
theorem run_neH (h k : Hd) (w : World) : (binOp .neq 52 (hV h) (hV k)).run Tryz.prog w = .ok (.bool (!eqH h k)) w := by
  obtain ⟨a, b, c⟩ := h
  obtain ⟨x, y, z⟩ := k
  unfold eqH
  cases h1 : (a == x) <;> cases h2 : (b == y) <;> cases h3 : (c == z) <;> simp_all <;> go_simp
end Go.Proofs.YtmdepkehpohgeaaGreat.Scr
