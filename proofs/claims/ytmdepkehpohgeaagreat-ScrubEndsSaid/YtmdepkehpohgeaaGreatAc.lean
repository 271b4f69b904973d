/- Put together: Ca, Cb, Cc, Ce, Cf. -/
import Derived.Test.YtmdepkehpohgeaaGreatBa
import Derived.Test.YtmdepkehpohgeaaGreatRt
/- Plain: right accesses, their records, as numbers. -/
namespace Go.Proofs.YtmdepkehpohgeaaGreat.Access
open Go.RowKit
set_option linter.unusedVariables false

/-- An access as the model holds it: its five parts. -/
abbrev acc (W : Int) (r : Bool) (A S D : Int) : Value := .agg #[.int .i64 W, .bool r, .int .u32 A, .int .i64 S, .int .u32 D]
def wdB (W : Int) : Bool := decide (0 ≤ W ∧ W < 8)
def fitB (D S : Int) : Bool := Word.sizeB S && decide (Word.lowV D S = D)
def silB (r : Bool) (D : Int) : Bool := r || decide (D = 0)
def rightB (W : Int) (r : Bool) (A S D : Int) : Bool := wdB W && Lane.alB A S && fitB D S && silB r D
/-- The second byte of a record. -/
def flagV (r : Bool) (S : Int) : Int := (if r then 1 else 0) + (if S = 2 then 2 else if S = 4 then 4 else 0)
/-- Four bytes of a word, and the word of four bytes. -/
def four (x : Int) : List Int := [x % 256, x / 256 % 256, x / 65536 % 256, x / 16777216]
def num (a b c d : Int) : Int := a + b * 256 + c * 65536 + d * 16777216
/-- A record. -/
def recL (W : Int) (r : Bool) (A S D : Int) : List Int :=
  [W, flagV r S, 0, 0, A % 256, A / 256 % 256, A / 65536 % 256, A / 16777216, D % 256, D / 256 % 256, D / 65536 % 256, D / 16777216]
theorem recL_len (W : Int) (r : Bool) (A S D : Int) : (recL W r A S D).length = 12 := rfl

theorem right_parts {W : Int} {r : Bool} {A S D : Int} (h : rightB W r A S D = true) : 0 ≤ W ∧ W < 8 ∧ (S = 1 ∨ S = 2 ∨ S = 4) ∧ A % S = 0 ∧ Word.lowV D S = D ∧ (r = true ∨ D = 0) := by
  unfold rightB wdB fitB silB Lane.alB at h
  simp only [Bool.and_eq_true, Bool.or_eq_true, decide_eq_true_eq] at h
  obtain ⟨⟨⟨⟨h1, h2⟩, h3, h4⟩, h5, h6⟩, h7⟩ := h
  exact ⟨h1, h2, Word.sizeB_yes h3, h4, h6, h7⟩
theorem right_of {W : Int} {r : Bool} {A S D : Int} (h1 : 0 ≤ W) (h2 : W < 8) (h3 : S = 1 ∨ S = 2 ∨ S = 4) (h4 : A % S = 0) (h5 : Word.lowV D S = D) (h6 : r = true ∨ D = 0) : rightB W r A S D = true := by
  have hs : Word.sizeB S = true := by unfold Word.sizeB; simpa using h3
  unfold rightB wdB fitB silB Lane.alB
  simp only [Bool.and_eq_true, Bool.or_eq_true, decide_eq_true_eq]
  exact ⟨⟨⟨⟨h1, h2⟩, hs, h4⟩, hs, h5⟩, h6⟩

/-- The size that flags tell. -/
def szV (f : Int) : Int := if f = 0 ∨ f = 1 then 1 else if f = 2 ∨ f = 3 then 2 else if f = 4 ∨ f = 5 then 4 else 0
theorem flag_bd (r : Bool) (S : Int) : 0 ≤ flagV r S ∧ flagV r S ≤ 5 := by
  unfold flagV; cases r <;> (repeat' split) <;> omega
theorem sz_flag {r : Bool} {S : Int} (h : S = 1 ∨ S = 2 ∨ S = 4) : szV (flagV r S) = S := by
  rcases h with rfl | rfl | rfl <;> cases r <;> rfl
theorem wr_flag {r : Bool} {S : Int} : decide (flagV r S % 2 = 1) = r := by
  unfold flagV
  cases r
  · rw [decide_eq_false]; simp only [Bool.false_eq_true, if_false]; split <;> (try split) <;> omega
  · rw [decide_eq_true]; simp only [if_true]; split <;> (try split) <;> omega
theorem flag_sz {f : Int} (h0 : 0 ≤ f) (h5 : f ≤ 5) : flagV (decide (f % 2 = 1)) (szV f) = f := by
  have : f = 0 ∨ f = 1 ∨ f = 2 ∨ f = 3 ∨ f = 4 ∨ f = 5 := by omega
  rcases this with rfl | rfl | rfl | rfl | rfl | rfl <;> rfl
theorem sz_no {f : Int} (h : ¬ (0 ≤ f ∧ f ≤ 5)) : szV f = 0 := by
  unfold szV; rw [if_neg (by omega), if_neg (by omega), if_neg (by omega)]
theorem num_four {x : Int} (h0 : 0 ≤ x) (h1 : x < 4294967296) : num (x % 256) (x / 256 % 256) (x / 65536 % 256) (x / 16777216) = x := by
  unfold num; omega
theorem four_num {a b c d : Int} (h : (0 ≤ a ∧ a < 256) ∧ (0 ≤ b ∧ b < 256) ∧ (0 ≤ c ∧ c < 256) ∧ 0 ≤ d ∧ d < 256) :
    num a b c d % 256 = a ∧ num a b c d / 256 % 256 = b ∧ num a b c d / 65536 % 256 = c ∧ num a b c d / 16777216 = d := by
  unfold num; omega
theorem num_bd {a b c d : Int} (h : (0 ≤ a ∧ a < 256) ∧ (0 ≤ b ∧ b < 256) ∧ (0 ≤ c ∧ c < 256) ∧ 0 ≤ d ∧ d < 256) : 0 ≤ num a b c d ∧ num a b c d < 4294967296 := by
  unfold num; omega
end Go.Proofs.YtmdepkehpohgeaaGreat.Access
/- Contracts: what is asked of a record; whether an access is right, both ways. -/
namespace Go.Proofs.YtmdepkehpohgeaaGreat.Access
open Go.RowKit
set_option linter.unusedVariables false

theorem ret_bool {x y : Bool} (h : x = y) : Ending.returned (.bool x) = .returned (.bool y) := by rw [h]

end Go.Proofs.YtmdepkehpohgeaaGreat.Access
/- Contracts: the document's Right; an access in a block. -/
namespace Go.Proofs.YtmdepkehpohgeaaGreat.Access
open Go.RowKit
set_option linter.unusedVariables false

/-- An access in a block. -/
structure Five (w : World) (b : Nat) (W : Int) (r : Bool) (A S D : Int) : Prop where
  c0 : w.cell? ⟨b, 0, none⟩ = some (.int .i64 W)
  c1 : w.cell? ⟨b, 1, none⟩ = some (.bool r)
  c2 : w.cell? ⟨b, 2, none⟩ = some (.int .u32 A)
  c3 : w.cell? ⟨b, 3, none⟩ = some (.int .i64 S)
  c4 : w.cell? ⟨b, 4, none⟩ = some (.int .u32 D)
theorem Five.keep {w w' : World} {b : Nat} {W : Int} {r : Bool} {A S D : Int} (h : Five w b W r A S D) (hb : Below w.heap.size w w') : Five w' b W r A S D :=
  ⟨cell_keep hb h.c0, cell_keep hb h.c1, cell_keep hb h.c2, cell_keep hb h.c3, cell_keep hb h.c4⟩
theorem Five.alloc {w : World} {b : Nat} {W : Int} {r : Bool} {A S D : Int} (h : Five w b W r A S D) (o : Obj) : Five (w.alloc o) b W r A S D := h.keep ((Below.refl _ _).alloc (Nat.le_refl _) o)
theorem five_new (w : World) (W : Int) (r : Bool) (A S D : Int) (t : TypeId) : Five (w.alloc (.cells #[.int .i64 W, .bool r, .int .u32 A, .int .i64 S, .int .u32 D] t)) w.heap.size W r A S D :=
  ⟨World.cell?_alloc_at _ _ _ 0 rfl, World.cell?_alloc_at _ _ _ 1 rfl, World.cell?_alloc_at _ _ _ 2 rfl, World.cell?_alloc_at _ _ _ 3 rfl, World.cell?_alloc_at _ _ _ 4 rfl⟩
end Go.Proofs.YtmdepkehpohgeaaGreat.Access
/- Contracts: the reach of an access, both ways. -/
namespace Go.Proofs.YtmdepkehpohgeaaGreat.Access
open Go.RowKit
set_option linter.unusedVariables false

/-- The ends of what is told of a reach. -/
def reF (b : Bool) (A : Int) : Int := if b then A else 0
def reT (b : Bool) (A S : Int) : Int := if b then A + S - 1 else 0
theorem right_top {W : Int} {r : Bool} {A S D : Int} (h : rightB W r A S D = true) (h1 : A < 4294967296) : A + S ≤ 4294967296 := by
  obtain ⟨_, _, hs, ha, _⟩ := right_parts h
  rcases hs with rfl | rfl | rfl <;> omega
theorem of_right {W : Int} {r : Bool} {A S D : Int} (h : rightB W r A S D = true) (h0 : 0 ≤ A) (h1 : A < 4294967296) :
    Reach.ofF A S = reF true A ∧ Reach.ofT A S = reT true A S ∧ Reach.ofB A S = true ∧ -9223372036854775808 ≤ S ∧ S ≤ 9223372036854775807 := by
  have ht := right_top h h1
  obtain ⟨_, _, hs, _⟩ := right_parts h
  have e : 1 ≤ S ∧ A + S ≤ 4294967296 := by omega
  exact ⟨if_pos e, if_pos e, decide_eq_true e, by omega, by omega⟩

end Go.Proofs.YtmdepkehpohgeaaGreat.Access
