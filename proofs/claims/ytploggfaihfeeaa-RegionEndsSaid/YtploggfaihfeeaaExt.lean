/- A region that draws its order, whose operations read and whose callees lay blocks of their own and turn nothing that was there: walked once, in the order of the text. -/
import Derived.Test.YtploggfaihfeeaaProg
import Derived.Below
import Derived.BigQuiet
import Derived.WalkKit
import Derived.Lib.Hide
namespace Go.Proofs.Ytploggfaihfeeaa
open Go.RowKit

/-- A tape's place, more blocks. -/
structure More where
  d : Nat
  os : Array Obj
instance : Nonempty More := ⟨⟨0, #[]⟩⟩
/-- W with more blocks behind, and the tape somewhere. -/
def ext (W : World) (p : More) : World := { W with heap := W.heap ++ p.os, drawn := p.d }
theorem ext_old (W : World) (p : More) {k : Nat} (h : k < W.heap.size) : (ext W p).heap[k]? = W.heap[k]? := by simp [ext, Array.getElem?_append, h]
theorem ext_below (W : World) (p : More) : Below W.heap.size W (ext W p) :=
  ⟨rfl, rfl, rfl, by simp [ext], fun k hk => ext_old W p hk⟩
theorem below_ext {W w' : World} (h : Below W.heap.size W w') : ∃ p, w' = ext W p := by
  refine ⟨⟨w'.drawn, w'.heap.extract W.heap.size w'.heap.size⟩, ?_⟩
  obtain ⟨h1, h2, h3, h4, h5⟩ := h
  obtain ⟨hp, tp, dr, os, out⟩ := w'
  obtain ⟨hp0, tp0, dr0, os0, out0⟩ := W
  simp only at *
  subst h1
  subst h2
  subst h3
  simp only [ext, World.mk.injEq, and_true]
  apply Array.ext_getElem?
  intro i
  by_cases hi : i < hp0.size
  · rw [h5 i hi, Array.getElem?_append_left hi]
  · rw [Array.getElem?_append_right (by omega), Array.getElem?_extract]
    by_cases hi2 : i < hp.size
    · rw [if_pos (by omega)]
      congr 1
      omega
    · rw [if_neg (by omega), Array.getElem?_eq_none (by omega)]
theorem cell_lt {w : World} {a : Addr} {v : Value} (h : w.cell? a = some v) : a.block < w.heap.size := by
  by_cases hb : a.block < w.heap.size
  · exact hb
  · exfalso
    simp [World.cell?, Array.getElem?_eq_none (Nat.le_of_not_lt hb)] at h
/-- What a call that lays blocks leaves: one cell. -/
theorem cell_keep {w1 w' : World} {a : Addr} {v : Value} (hb : Below w1.heap.size w1 w') (h : w1.cell? a = some v) : w'.cell? a = some v := by
  rw [hb.cell (cell_lt h)]; exact h
theorem ext_cell {W : World} {a : Addr} {v : Value} (h : W.cell? a = some v) (p : More) : (ext W p).cell? a = some v := cell_keep (ext_below W p) h
theorem ext_below2 {W w' : World} {p : More} (h : Below (ext W p).heap.size (ext W p) w') : Below W.heap.size W w' :=
  (ext_below W p).trans (h.mono (ext_below W p).size)
/-- A callee's contract, met behind other callees. -/
theorem ext_of {P : Program} {f : FuncId} {args : Array Value} {W : World} {p : More} {v : Value}
    (h : Calls P f args (ext W p) fun e w' => e = .returned v ∧ Below (ext W p).heap.size (ext W p) w') : Calls P f args (ext W p) fun e w'' => e = .returned v ∧ ∃ p, w'' = ext W p :=
  h.mono fun _ _ ⟨he, hm⟩ => ⟨he, below_ext (ext_below2 hm)⟩
theorem ext_same {P : Program} {f : FuncId} {args : Array Value} {W : World} {p : More} {v : Value}
    (h : Calls P f args (ext W p) fun e w' => e = .returned v ∧ ext W p = w') : Calls P f args (ext W p) fun e w'' => e = .returned v ∧ ∃ p, w'' = ext W p :=
  h.mono fun _ _ ⟨he, hm⟩ => ⟨he, p, hm.symm⟩
/-- The region: W is the world at hand, a letter. -/
theorem wp_region_ext {P : Program} {id : Nat} {Q : Exit → Act → World → Prop} {a : Act} {w : World} {l : List Oper} (hm : P.follows .mixedOrders = true) (hB : Region.lexB .any l.toArray = true)
    (h : ∀ W, Hid (W = w) → wpQuiet P l.toArray (fun w' => ∃ p, w' = ext W p) (fun a' => ∀ w', (∃ p, w' = ext W p) → Q .normal a' w') l a) : (Code.region id l.toArray true).wp P Q a w :=
  wp_region_quiet (C := fun w' => ∃ p, w' = ext w p) hm hB ⟨⟨w.drawn + 1, #[]⟩, by simp [ext]⟩ (by simpa using h w (Lib.hid rfl))
end Go.Proofs.Ytploggfaihfeeaa
