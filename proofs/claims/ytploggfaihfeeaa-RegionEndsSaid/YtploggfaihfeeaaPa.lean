/- What is lent, in memory with marks behind; whether it is kept; a number picked. -/
import Derived.Test.YtploggfaihfeeaaOc
import Derived.Test.YtploggfaihfeeaaWf
import Derived.Test.YtploggfaihfeeaaRow
import Derived.Test.YtploggfaihfeeaaKeBytes
import Derived.Deep.QuietTactic
import Derived.BigQuiet
namespace Go.Proofs.Ytploggfaihfeeaa.Word
open Go.RowKit Go.Maps Go.ChangeShapes Go.WideShapes Go.ChangeAt
set_option linter.unusedVariables false

abbrev bv (l : List Int) : List Value := l.map fun c => Value.int .u8 c
theorem bv_cells {w : World} {a : Option Addr} {n : Nat} {l : List Int} (h : Row .u8 w a n l) : ∀ ad, a = some ad → ∀ j u, (bv l)[j]? = some u → w.cell? (ad.add j) = some u := by
  rintro ad rfl j u hu
  obtain ⟨h1, h2, h3, h4⟩ := h
  rcases h4 with h4 | ⟨b, off, hs, hlt, hc⟩
  · have : l = [] := List.eq_nil_of_length_eq_zero (by omega)
    subst this; simp [bv] at hu
  · have hj : j < l.length := by
      have := (List.getElem?_eq_some_iff.1 hu).1
      simpa [bv] using this
    obtain rfl := Option.some.inj hs
    have := hc j (by omega)
    have hadd : ((⟨b, off, none⟩ : Addr).add j) = ⟨b, off + j, none⟩ := by
      unfold Addr.add; split <;> simp_all
    rw [hadd, this]
    simp [bv, List.getElem?_eq_getElem hj] at hu
    rw [← hu]
    simp [List.getD_eq_getElem?_getD, List.getElem?_eq_getElem hj]
theorem bv_one (l : List Int) : ∀ u ∈ bv l, u.oneCell' = true := by
  intro u hu
  obtain ⟨c, _, rfl⟩ := List.mem_map.1 hu
  rfl
theorem marks1_succ (P : List Value) (k : Nat) : (P ++ KitBytes.marks 1 k) ++ [.int .u8 (KitBytes.mk 1 (k : Nat))] = P ++ KitBytes.marks 1 (k + 1) := by
  rw [KitBytes.marks_succ, List.append_assoc]

/-- What Lent answers. -/
def LentPost (n : Nat) (L : List Value) (w : World) (e : Ending) (W' : World) : Prop := ∃ g, e = .returned (.slice (some ⟨g, 0, none⟩) n (n + 12)) ∧
  W'.ownsRow w.heap.size 5 1 (.slice (some ⟨g, 0, none⟩) (n + 12) (n + 12)) (n + 12) (L ++ KitBytes.marks 1 12) ∧ Below w.heap.size w W'
end Go.Proofs.Ytploggfaihfeeaa.Word
