/- The parts of a word as the document tells, over bytes that are lent: the walk of parts. -/
import Derived.Test.YtploggfaihfeeaaPe
namespace Go.Proofs.Ytploggfaihfeeaa.Word
open Go.RowKit Go.Maps Go.ChangeShapes Go.WideShapes Go.ChangeAt
set_option linter.unusedVariables false

/-- The bytes at a block's head read as l. -/
def At (w : World) (g n : Nat) (l : List Int) : Prop := ∀ i, i < n → w.cell? ⟨g, i, none⟩ = some (.int .u8 (l.getD i 0))
theorem At.below {w w' : World} {g n : Nat} {l : List Int} (h : At w g n l) (hb : Below w.heap.size w w') : At w' g n l := fun i hi =>
  (hb.cell (p := ⟨g, i, none⟩) (World.block_lt_of_cell? w _ (h i hi))).trans (h i hi)
def ofV (n : Nat) (l : List Int) : Int := if n = 1 then l.getD 0 0 else if n = 2 then l.getD 0 0 + l.getD 1 0 * 256 else if n = 4 then l.getD 0 0 + l.getD 1 0 * 256 + l.getD 2 0 * 65536 + l.getD 3 0 * 16777216 else 0
theorem byte_at {l : List Int} (hw : ∀ c ∈ l, (Lit.int .u8 c).wf = true) (i : Nat) : 0 ≤ l.getD i 0 ∧ l.getD i 0 < 256 := by
  rw [List.getD_eq_getElem?_getD]
  cases e : l[i]? with
  | none => simp
  | some c => have := bounds_u8 (hw c (List.mem_of_getElem? e)); simp; omega
theorem rof_lent (g n cap : Nat) (l : List Int) (v : Int) (b : Bool) (w : World) (hw : ∀ c ∈ l, (Lit.int .u8 c).wf = true) (h : At w g n l) (hv : ofV n l = v) (hb : sizeB (n : Int) = b) :
    Calls Try.prog 54 #[.slice (some ⟨g, 0, none⟩) n cap] w fun e w' => e = .returned (.tuple #[.int .u32 v, .bool b]) ∧ w = w' := by
  subst hv; subst hb
  have B := byte_at hw
  by_cases hs : sizeB (n : Int) = true
  · rcases size_cases hs with rfl | rfl | rfl
    · exact rof_1 g 0 cap _ w (h 0 (by omega)) (B 0).1 (B 0).2
    · exact rof_2 g 0 cap _ _ w (h 0 (by omega)) (B 0).1 (B 0).2 (h 1 (by omega)) (B 1).1 (B 1).2
    · exact rof_4 g 0 cap _ _ _ _ w (h 0 (by omega)) (B 0).1 (B 0).2 (h 1 (by omega)) (B 1).1 (B 1).2 (h 2 (by omega)) (B 2).1 (B 2).2 (h 3 (by omega)) (B 3).1 (B 3).2
  · have hs' : sizeB (n : Int) = false := by simpa using hs
    have hf := sizeB_false hs'
    have e : ofV n l = 0 := by unfold ofV; rw [if_neg (by omega), if_neg (by omega), if_neg (by omega)]
    rw [e, hs']
    exact rof_no _ n cap w hs'
theorem low_q (v n : Int) (lv : Int) (b : Bool) (w : World) (hv : 0 ≤ v) (hv' : v < 4294967296) (hl : lowV v n = lv) (hb : sizeB n = b) :
    Calls Try.prog 61 #[.int .u32 v, .int .i64 n] w fun e w' => e = .returned (.tuple #[.int .u32 lv, .bool b]) ∧ w = w' := by
  subst hl; subst hb; exact low_any v n w hv hv'
end Go.Proofs.Ytploggfaihfeeaa.Word
