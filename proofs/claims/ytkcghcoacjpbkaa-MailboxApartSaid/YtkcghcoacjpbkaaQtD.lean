/- A slice of bools that came in: rows of truth values; opened at the card's door (frame.py: W~[]bool~Truth.RowT~QtD.elem_row). -/
import Derived.Lib.SmallJoins
import Derived.Test.YtkcghcoacjpbkaaBa
import Derived.Test.YtkcghcoacjpbkaaFa
import Derived.Deep.Slices
namespace Go.Proofs.Ytkcghcoacjpbkaa.Truth
open Go.RowKit Go.Maps Go.ChangeShapes Fifo
def RowT (w : World) (a : Option Addr) (len : Nat) (l : List Bool) : Prop := l.length = len ∧ ∀ j, j < len → ∃ b off, a = some ⟨b, off, none⟩ ∧ w.cell? ⟨b, off + j, none⟩ = some (.bool l[j]!)
theorem RowT.nil (w : World) (a : Option Addr) : RowT w a 0 [] := ⟨rfl, fun j hj => by omega⟩
theorem RowT.keep {w w' : World} {a : Option Addr} {len : Nat} {l : List Bool} (h : RowT w a len l) (hb : Below w.heap.size w w') : RowT w' a len l := by
  obtain ⟨h1, h2⟩ := h
  refine ⟨h1, fun j hj => ?_⟩
  obtain ⟨b, off, e, hc⟩ := h2 j hj
  exact ⟨b, off, e, cell_keep hb hc⟩
end Go.Proofs.Ytkcghcoacjpbkaa.Truth
namespace Go.Proofs.Ytkcghcoacjpbkaa.QtD
open Go.ChangeShapes Go.WideShapes Go.RowKit Go.Deep Go.WideElems Go.Maps Go.Joins
set_option linter.unusedVariables false
variable {H : Type} {enc : TypeId × Value → H} {w : World} {base : Nat} {spare : Nat → Bool} {held : Bool}

theorem cG : Try.prog.cellsOf 4 = 1 := by kernel_rfl
set_option maxRecDepth 100000 in
theorem elem_row {fuel : Nat} {a : Option Addr} {len cap : Nat} {x : DataW H × List MemPlace} (h : DataW.trod enc Try.prog w base spare held fuel 48 [.slice a len cap] = some x) :
    ∃ l, Truth.RowT w a len l ∧ (a = none → len = 0 ∧ cap = 0) ∧ len ≤ cap ∧ len ≤ maxLen := by
  rcases open_slice Try.underlying48 h with ⟨hcs, _⟩ | ⟨ad, len', cap', m, n, D, Pl, hcs, hb, hl, hm, hmm, _, hx⟩
  · simp at hcs
    obtain ⟨rfl, rfl, rfl⟩ := hcs
    exact ⟨[], Truth.RowT.nil w none, fun _ => ⟨rfl, rfl⟩, Nat.le_refl _, Nat.zero_le _⟩
  · simp at hcs
    obtain ⟨rfl, rfl, rfl⟩ := hcs
    have hlm : len ≤ m := by split at hmm <;> omega
    have each : ∀ i, i < m → ∃ g : Bool, w.cell? (ad.add i) = some (.bool g) := by
      intro i hi
      obtain ⟨cs', h1, h2⟩ := hx i hi
      rw [cG] at h1
      obtain ⟨_, hlen, hcell⟩ := World.cells?_some h1
      obtain ⟨c0, rfl⟩ : ∃ c0, cs' = [c0] := by
        match cs', hlen with
        | [c0], _ => exact ⟨c0, rfl⟩
      obtain ⟨z, e, _⟩ := DataW.trod_bool Try.underlying4 h2
      simp at e
      subst e
      refine ⟨z, ?_⟩
      have h0 := hcell 0 (by omega)
      rw [Nat.mul_one] at h0
      exact h0
    obtain ⟨q, hq⟩ := choose_lt each
    have eq : ∀ j, j < len → ((List.range len).map q)[j]! = q j := fun j hj => by rw [getElem!_pos _ j (by simpa using hj)]; simp
    refine ⟨(List.range len).map q, ⟨by simp, fun j hj => ?_⟩, (fun h => by cases h), hl, Nat.le_trans hl hm⟩
    obtain ⟨b, off, sp⟩ := ad
    have hsp : sp = none := by
      cases sp with
      | none => rfl
      | some s =>
        exfalso
        have g := hq 0 (by omega)
        rw [show (⟨b, off, some s⟩ : Addr).add 0 = ⟨b, off, some s⟩ from rfl] at g
        unfold World.cell? at g
        split at g
        · simp at g
        · cases g
    subst hsp
    rw [eq j hj]
    have c := hq j (by omega)
    rw [add_plain] at c
    exact ⟨b, off, rfl, c⟩
end Go.Proofs.Ytkcghcoacjpbkaa.QtD
