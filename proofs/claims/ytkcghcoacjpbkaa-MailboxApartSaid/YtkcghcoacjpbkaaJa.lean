/- Plain: what a mailbox has; what is read, written. -/
import Derived.Test.YtkcghcoacjpbkaaBa
namespace Go.Proofs.Ytkcghcoacjpbkaa.Mbox
set_option linter.unusedVariables false

structure Bx where
  W : List Int
  C : Int
  L : Int
def zeroX : Bx := ⟨[], 0, 0⟩
def OkW (l : List Int) : Prop := ∀ x, x ∈ l → 0 ≤ x ∧ x < 4294967296
structure OkX (u : Bx) : Prop where
  w : OkW u.W ∧ u.W.length ≤ 4
  c : 0 ≤ u.C ∧ u.C ≤ 1
  l : 0 ≤ u.L ∧ u.L < 4294967296
/-- What is read, and what stays. -/
def readX (u : Bx) (reg : Int) : Int × Bx :=
  if reg = 0 then (match u.W with
    | [] => (0, u)
    | b :: t => (b, { u with W := t }))
  else if reg = 1 then ((u.W.length : Int), u) else if reg = 2 then (u.C, u) else if reg = 3 then (u.L, u) else (0, u)
def writeX (u : Bx) (reg v : Int) : Bx :=
  if reg = 0 then (if u.W.length < 4 then { u with W := u.W ++ [v] } else if u.L < 4294967295 then { u with L := u.L + 1 } else u)
  else if reg = 2 then { u with C := v % 2 } else if reg = 3 then { u with L := 0 } else u
def lineX (u : Bx) : Bool := decide (u.C = 1 ∧ 0 < u.W.length)
theorem okW_snoc {l : List Int} {b : Int} (h : OkW l) (hb : 0 ≤ b ∧ b < 4294967296) : OkW (l ++ [b]) := by
  intro x hx
  rcases List.mem_append.mp hx with h1 | h1
  · exact h x h1
  · rw [List.mem_singleton.mp h1]; exact hb
theorem okW_tail {b : Int} {t : List Int} (h : OkW (b :: t)) : OkW t := fun x hx => h x (List.mem_cons_of_mem _ hx)
theorem okW_nil : OkW [] := fun x hx => absurd hx (by simp)
theorem okX_zero : OkX zeroX := ⟨⟨okW_nil, by decide⟩, ⟨by decide, by decide⟩, ⟨by decide, by decide⟩⟩
theorem okX_read {u : Bx} (h : OkX u) (reg : Int) : OkX (readX u reg).2 := by
  unfold readX
  split
  · split
    · exact h
    · rename_i b t e
      have h1 := h.w
      rw [e] at h1
      exact ⟨⟨okW_tail h1.1, by have := h1.2; simp at this; show t.length ≤ 4; omega⟩, h.c, h.l⟩
  split
  · exact h
  split
  · exact h
  split
  · exact h
  · exact h
theorem okX_write {u : Bx} (h : OkX u) (reg : Int) {v : Int} (hv : 0 ≤ v ∧ v < 4294967296) : OkX (writeX u reg v) := by
  unfold writeX
  split
  · split
    · rename_i h4
      have h1 := h.w
      exact ⟨⟨okW_snoc h1.1 hv, by rw [List.length_append]; show u.W.length + 1 ≤ 4; omega⟩, h.c, h.l⟩
    · split
      · rename_i h4 h5
        exact ⟨h.w, h.c, by have := h.l; show 0 ≤ u.L + 1 ∧ u.L + 1 < 4294967296; omega⟩
      · exact h
  split
  · exact ⟨h.w, by show 0 ≤ v % 2 ∧ v % 2 ≤ 1; omega, h.l⟩
  split
  · exact ⟨h.w, h.c, by show (0 : Int) ≤ 0 ∧ (0 : Int) < _; omega⟩
  · exact h
/-- Words as values. -/
def lv (l : List Int) : List Value := l.map fun x => .int .u32 x
theorem lvl (l : List Int) : (lv l).length = l.length := by simp [lv]
theorem lv_app (l m : List Int) : lv (l ++ m) = lv l ++ lv m := by simp [lv]
theorem lv_one (x : Int) : lv [x] = [.int .u32 x] := rfl
end Go.Proofs.Ytkcghcoacjpbkaa.Mbox
