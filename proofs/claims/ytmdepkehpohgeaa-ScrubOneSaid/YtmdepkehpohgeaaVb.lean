/- Rows of devices in memory; a device's own contracts by the document. -/
import Derived.Test.YtmdepkehpohgeaaVa
import Derived.Test.YtmdepkehpohgeaaOw
namespace Go.Proofs.Ytmdepkehpohgeaa.Win
open Go.RowKit Go.Maps Fifo Orow
set_option linter.unusedVariables false

/-- A device's value. -/
abbrev dv (k B S O L : Int) : Value := .agg #[.int .i64 k, .int .u32 B, .int .i64 S, .int .i64 O, .int .i64 L]
/-- A device that lies in a block from p on. -/
structure AtD (w : World) (b p : Nat) (d : Dv) : Prop where
  c0 : w.cell? ⟨b, p, none⟩ = some (.int .i64 d.k)
  c1 : w.cell? ⟨b, p + 1, none⟩ = some (.int .u32 d.B)
  c2 : w.cell? ⟨b, p + 2, none⟩ = some (.int .i64 d.S)
  c3 : w.cell? ⟨b, p + 3, none⟩ = some (.int .i64 d.O)
  c4 : w.cell? ⟨b, p + 4, none⟩ = some (.int .i64 d.L)
theorem AtD.keep {w w' : World} {b p : Nat} {d : Dv} (h : AtD w b p d) (hb : Below w.heap.size w w') : AtD w' b p d :=
  ⟨cell_keep hb h.c0, cell_keep hb h.c1, cell_keep hb h.c2, cell_keep hb h.c3, cell_keep hb h.c4⟩
theorem atD_new (w : World) (k B S O L : Int) (t : TypeId) : AtD (w.alloc (.cells #[.int .i64 k, .int .u32 B, .int .i64 S, .int .i64 O, .int .i64 L] t)) w.heap.size 0 ⟨k, B, S, O, L⟩ :=
  ⟨World.cell?_alloc_at _ _ _ 0 rfl, World.cell?_alloc_at _ _ _ 1 rfl, World.cell?_alloc_at _ _ _ 2 rfl, World.cell?_alloc_at _ _ _ 3 rfl, World.cell?_alloc_at _ _ _ 4 rfl⟩
/-- A slice of devices. -/
def RowV (w : World) (a : Option Addr) (n : Nat) (l : List Dv) : Prop :=
  l.length = n ∧ (∀ j, j < n → okD l[j]!) ∧ ∀ j, j < n → ∃ b off, a = some ⟨b, off, none⟩ ∧ AtD w b (off + j * 5) l[j]!
theorem RowV.keep {w w' : World} {a : Option Addr} {n : Nat} {l : List Dv} (h : RowV w a n l) (hb : Below w.heap.size w w') : RowV w' a n l :=
  ⟨h.1, h.2.1, fun j hj => by
    obtain ⟨b, off, e, c⟩ := h.2.2 j hj
    exact ⟨b, off, e, c.keep hb⟩⟩
theorem RowV.nil (w : World) : RowV w none 0 [] := ⟨rfl, fun j hj => by omega, fun j hj => by omega⟩

end Go.Proofs.Ytmdepkehpohgeaa.Win
