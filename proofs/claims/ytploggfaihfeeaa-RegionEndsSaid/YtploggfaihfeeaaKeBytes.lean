/- The kit's apartness of two lists of uint8: ApartBytes. -/
import Derived.Test.YtploggfaihfeeaaKdBytes
namespace Go.Proofs.Ytploggfaihfeeaa.KitBytes
open Go.RowKit Go.Maps Go.Proofs.Ytploggfaihfeeaa.Kit
set_option linter.unusedVariables false

theorem info_s : (Try.prog.info? 66).map (fun i => (i.zero, i.size, i.bytes)) = some (some (.slice none 0 0), 1, 24) := by kernel_rfl
/-- The bag's cells, where this kind's list of lists is v. -/
def bagCells (v : Value) : Array Value := #[.slice none 0 0, .slice none 0 0, .slice none 0 0, .slice none 0 0, .slice none 0 0, v, .slice none 0 0, .slice none 0 0, .slice none 0 0, .slice none 0 0, .slice none 0 0, .slice none 0 0, .slice none 0 0, .slice none 0 0, .slice none 0 0, .slice none 0 0, .slice none 0 0]
theorem own_keep {S : Nat → Prop} {w w' : World} {b : Nat} {v : Value} {n : Nat} {L : List Value} (h : w.ownsRow b 66 1 v n L) (ho : Only S w w') (hn : ∀ k, v.ownBlock = some k → ¬ S k) : w'.ownsRow b 66 1 v n L := by
  refine ⟨h.1, ?_⟩
  rcases h.2 with h2 | ⟨g, cap, cur, rfl, hg, hh, r⟩
  · exact .inl h2
  · exact .inr ⟨g, cap, cur, rfl, hg, ho.heap hh (hn g rfl), r⟩
end Go.Proofs.Ytploggfaihfeeaa.KitBytes
