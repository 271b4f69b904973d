/- What is added is taken away again; the bits of a word are it: the walk of WordBack. -/
import Derived.Test.YteahocaogkhddaaDoorOc
import Derived.Test.YteahocaogkhddaaDoorWf
import Derived.Test.YteahocaogkhddaaDoorRow
import Derived.Deep.QuietTactic
import Derived.BigQuiet
namespace Go.Proofs.YteahocaogkhddaaDoor.Word
open Go.RowKit Go.ChangeShapes Go.WideShapes Go.ChangeAt
set_option linter.unusedVariables false

theorem wb_add (a b s : Int) (o : Bool) (w : World) (ha : 0 ≤ a) (hb : 0 ≤ b) (ha' : a < 4294967296) (hb' : b < 4294967296) (hs : sumV a b = s) (ho : sumB a b = o) :
    Calls Tryd.prog 13 #[.int .u32 a, .int .u32 b] w fun e w' => e = .returned (.tuple #[.int .u32 s, .bool o]) ∧ w = w' := by
  subst hs; subst ho
  exact add_any a b w ha hb ha' hb'
theorem wb_sub (a b s : Int) (o : Bool) (w : World) (ha : 0 ≤ a) (hb : 0 ≤ b) (ha' : a < 4294967296) (hb' : b < 4294967296) (hs : sumV a b = s) (ho : sumB a b = o) :
    Calls Tryd.prog 15 #[.int .u32 s, .int .u32 b] w fun e w' => e = .returned (.tuple #[.int .u32 a, .bool o]) ∧ w = w' := by
  subst hs; subst ho
  refine (sub_any (sumV a b) b w).mono fun e w' ⟨he, hw⟩ => ⟨he.trans (ret_int_bool ?_ ?_), hw⟩
  · unfold subV sumV; omega
  · unfold subB sumB sumV; rw [decide_eq_decide]; omega
/-- What Ones answers, as its cells read. -/
def OnesRead (x : Nat) (w : World) (e : Ending) (W' : World) : Prop := ∃ a cap, e = .returned (.slice a (onesL x).length cap) ∧ Below w.heap.size w W' ∧
  (onesL x = [] ∨ ∃ g, a = some ⟨g, 0, none⟩ ∧ w.heap.size ≤ g ∧ ∀ k, k < (onesL x).length → W'.cell? ⟨g, 0 + k, none⟩ = some (.int .i64 ((onesL x).getD k 0 : Nat)))
theorem wb_ones (x : Nat) (hx : x < 4294967296) (w : World) (hT : TabZ w) : Calls Tryd.prog 19 #[.int .u32 x] w (OnesRead x w) := by
  refine (ones_any x hx w hT).mono ?_
  rintro e W' ⟨v, rfl, hown, hb⟩
  rcases hown.2 with ⟨rfl, h0⟩ | ⟨g, cap, cur, rfl, hg, _⟩
  · exact ⟨none, 0, by rw [h0], hb, .inl (List.eq_nil_of_length_eq_zero h0)⟩
  · refine ⟨_, cap, rfl, hb, .inr ⟨g, rfl, hg, fun k hk => ?_⟩⟩
    rw [Nat.zero_add, hown.cellAt k (by omega)]
    simp [List.getD_eq_getElem?_getD, hk]
theorem wb_first (x f : Nat) (b : Bool) (hx : x < 4294967296) (w : World) (hT : TabZ w) (hf : firstV x = f) (hb : firstB x = b) :
    Calls Tryd.prog 17 #[.int .u32 x] w fun e W' => e = .returned (.tuple #[.int .i64 f, .bool b]) ∧ Below w.heap.size w W' := by
  subst hf; subst hb
  exact first_any x hx w hT

theorem wb_ones0 (w : World) (hT : TabZ w) : Calls Tryd.prog 19 #[.int .u32 0] w fun e W' => ∃ a cap, e = .returned (.slice a 0 cap) ∧ Below w.heap.size w W' :=
  (wb_ones 0 (by omega) w hT).mono fun e W' ⟨a, cap, he, hb, _⟩ => ⟨a, cap, he, hb⟩
theorem wb_first0 (w : World) (hT : TabZ w) : Calls Tryd.prog 17 #[.int .u32 0] w fun e W' => e = .returned (.tuple #[.int .i64 0, .bool false]) ∧ Below w.heap.size w W' :=
  wb_first 0 0 false (by omega) w hT rfl rfl

end Go.Proofs.YteahocaogkhddaaDoor.Word
