/- Plain: what is told of deeds, deed by deed. -/
import Derived.Test.YtknhgfofmkpnfaaGreatS5a
import Derived.Test.YtknhgfofmkpnfaaGreatS5d
import Derived.Test.YtknhgfofmkpnfaaGreatPk
namespace Go.Proofs.YtknhgfofmkpnfaaGreat.Devs
set_option linter.unusedSectionVars false
variable [Inhabited Lane.OTab]
set_option linter.unusedVariables false

/-- Which deed it is, of so many. -/
noncomputable def pk (x : Int) (n : Nat) (h : 0 < n) (h2 : n < 1000) : Nat := Classical.choose (Pk.pick_is x n h h2)
theorem pk_is (x : Int) (n : Nat) (h : 0 < n) (h2 : n < 1000) : pk x n h h2 < n ∧ ∀ w, Go.Calls Tryz.prog 22 #[.int .i64 x, .int .i64 (n : Nat)] w fun e w' => e = .returned (.int .i64 (pk x n h h2 : Nat)) ∧ w = w' := Classical.choose_spec (Pk.pick_is x n h h2)
/-- The sum of what a step asks for: its address and its word. -/
def askV : Dv → Int
  | .eng e => if e.has then (e.T + e.H) % 4294967296 else (e.F + 0) % 4294967296
  | _ => 0
/-- A deed of the kind p: what is told, whether, what stays. -/
def deedP (d : Dv) (p : Nat) (x : Dd) : Int × Bool × Dv :=
  if p = 2 then readD d x.of x.sz
  else if p = 3 then ((tickD d).1, (tickD d).2.1, (tickD d).2.2)
  else if p = 4 then (0, (inputD d (x.v % 256)).1, (inputD d (x.v % 256)).2)
  else if p = 5 ∨ p = 6 then (if busyD d then (askV d, true, toldD d x.v x.er) else (0, false, d))
  else (0, (writeD d x.of x.sz x.v).1, (writeD d x.of x.sz x.v).2)
noncomputable def deedV (d : Dv) (x : Dd) : Int × Bool × Dv := deedP d (pk x.wh 7 (by decide) (by decide)) x
/-- The words of a deed. -/
def wordsV (t : Int × Bool × Dv) : List Int := t.1 :: ((if t.2.1 then 1 else 0) + (if lineD t.2.2 then 2 else 0)) :: lookD t.2.2
noncomputable def runV (d : Dv) : List Dd → List Int × Dv
  | [] => ([], d)
  | x :: l => (wordsV (deedV d x) ++ (runV (deedV d x).2.2 l).1, (runV (deedV d x).2.2 l).2)
theorem runV_snoc (d : Dv) (l : List Dd) (x : Dd) : runV d (l ++ [x]) = ((runV d l).1 ++ wordsV (deedV (runV d l).2 x), (deedV (runV d l).2 x).2.2) := by
  induction l generalizing d with
  | nil => simp [runV]
  | cons y l ih => simp [runV, ih]
theorem deed_zero (d : Dv) (p : Nat) (x : Dd) : zeroD (deedP d p x).2.2 = zeroD d := by
  unfold deedP
  split
  · exact read_zero d _ _
  split
  · exact tick_zero d
  split
  · exact input_zero d _
  split
  · split
    · exact told_zero d _ _
    · rfl
  · exact write_zero d _ _ _
theorem runV_zero (d : Dv) (l : List Dd) : zeroD (runV d l).2 = zeroD d := by
  induction l generalizing d with
  | nil => rfl
  | cons y l ih => simp only [runV]; rw [ih]; exact deed_zero d _ y
end Go.Proofs.YtknhgfofmkpnfaaGreat.Devs
