/- Plain: what a uart has; what is read, written, comes, what a tick makes. -/
import Derived.Test.YthdcealhhmfgcaaBa
namespace Go.Proofs.Ythdcealhhmfgcaa.Uart
set_option linter.unusedVariables false

structure Un where
  Came : List Int
  Goes : List Int
  LI : Bool
  LO : Bool
  C : Int
  P : Int
def zeroU : Un := ⟨[], [], false, false, 0, 0⟩
def OkB (l : List Int) : Prop := ∀ x, x ∈ l → 0 ≤ x ∧ x < 256
structure OkU (u : Un) : Prop where
  came : OkB u.Came ∧ u.Came.length ≤ 8
  goes : OkB u.Goes ∧ u.Goes.length ≤ 8
  c : 0 ≤ u.C ∧ u.C ≤ 1
  p : 0 ≤ u.P ∧ u.P < 4
def flagsU (u : Un) : Int := u.Came.length + 256 * u.Goes.length + (if u.LI then 65536 else 0) + (if u.LO then 131072 else 0)
/-- What is read, and what stays. -/
def readU (u : Un) (reg : Int) : Int × Un :=
  if reg = 0 then (match u.Came with
    | [] => (0, u)
    | b :: t => (256 + b, { u with Came := t }))
  else if reg = 1 then (flagsU u, u) else if reg = 2 then (u.C, u) else (0, u)
def writeU (u : Un) (reg v : Int) : Un :=
  if reg = 0 then (if u.Goes.length = 8 then { u with LO := true } else { u with Goes := u.Goes ++ [v % 256] })
  else if reg = 2 then { u with C := v % 2 } else if reg = 3 then { u with LI := false, LO := false } else u
def inputU (u : Un) (b : Int) : Bool × Un := if u.Came.length = 8 then (false, { u with LI := true }) else (true, { u with Came := u.Came ++ [b] })
/-- A tick: the byte that goes out, whether one does, what stays. -/
def tickU (u : Un) : Int × Bool × Un :=
  if u.P = 3 then (match u.Goes with
    | [] => (0, false, { u with P := 0 })
    | b :: t => (b, true, { u with P := 0, Goes := t }))
  else (0, false, { u with P := u.P + 1 })
def lineU (u : Un) : Bool := decide (u.C = 1 ∧ 0 < u.Came.length)
theorem okB_snoc {l : List Int} {b : Int} (h : OkB l) (hb : 0 ≤ b ∧ b < 256) : OkB (l ++ [b]) := by
  intro x hx
  rcases List.mem_append.mp hx with h1 | h1
  · exact h x h1
  · rw [List.mem_singleton.mp h1]; exact hb
theorem okB_tail {b : Int} {t : List Int} (h : OkB (b :: t)) : OkB t := fun x hx => h x (List.mem_cons_of_mem _ hx)
theorem okB_nil : OkB [] := fun x hx => absurd hx (by simp)
theorem okU_zero : OkU zeroU := ⟨⟨okB_nil, by decide⟩, ⟨okB_nil, by decide⟩, ⟨by decide, by decide⟩, ⟨by decide, by decide⟩⟩
theorem okU_read {u : Un} (h : OkU u) (reg : Int) : OkU (readU u reg).2 := by
  unfold readU
  split
  · split
    · exact h
    · rename_i b t e
      have h1 := h.came
      rw [e] at h1
      exact ⟨⟨okB_tail h1.1, by have := h1.2; simp at this; show t.length ≤ 8; omega⟩, h.goes, h.c, h.p⟩
  split
  · exact h
  split
  · exact h
  · exact h
theorem read_b {u : Un} (h : OkU u) (reg : Int) : 0 ≤ (readU u reg).1 ∧ (readU u reg).1 < 4294967296 := by
  have h1 := h.came
  have h2 := h.goes
  have h3 := h.c
  unfold readU
  split
  · split
    · exact ⟨Int.le_refl 0, by show (0 : Int) < _; omega⟩
    · rename_i b t e
      rw [e] at h1
      have := h1.1 b List.mem_cons_self
      show 0 ≤ 256 + b ∧ 256 + b < _
      omega
  split
  · show 0 ≤ flagsU u ∧ flagsU u < _
    unfold flagsU
    have a := h1.2
    have b := h2.2
    split <;> split <;> omega
  split
  · show 0 ≤ u.C ∧ u.C < _
    omega
  · exact ⟨Int.le_refl 0, by show (0 : Int) < _; omega⟩
theorem okU_write {u : Un} (h : OkU u) (reg v : Int) : OkU (writeU u reg v) := by
  unfold writeU
  split
  · split
    · exact ⟨h.came, h.goes, h.c, h.p⟩
    · rename_i h8
      have h2 := h.goes
      exact ⟨h.came, ⟨okB_snoc h2.1 (by omega), by rw [List.length_append]; have := h2.2; show u.Goes.length + 1 ≤ 8; omega⟩, h.c, h.p⟩
  split
  · exact ⟨h.came, h.goes, by show 0 ≤ v % 2 ∧ v % 2 ≤ 1; omega, h.p⟩
  split
  · exact ⟨h.came, h.goes, h.c, h.p⟩
  · exact h
theorem okU_input {u : Un} (h : OkU u) {b : Int} (hb : 0 ≤ b ∧ b < 256) : OkU (inputU u b).2 := by
  unfold inputU
  split
  · exact ⟨h.came, h.goes, h.c, h.p⟩
  · rename_i h8
    have h2 := h.came
    exact ⟨⟨okB_snoc h2.1 hb, by rw [List.length_append]; have := h2.2; show u.Came.length + 1 ≤ 8; omega⟩, h.goes, h.c, h.p⟩
theorem okU_tick {u : Un} (h : OkU u) : OkU (tickU u).2.2 := by
  have hp := h.p
  unfold tickU
  split
  · split
    · exact ⟨h.came, h.goes, h.c, by show (0 : Int) ≤ 0 ∧ (0 : Int) < 4; omega⟩
    · rename_i b t e
      have h1 := h.goes
      rw [e] at h1
      exact ⟨h.came, ⟨okB_tail h1.1, by have := h1.2; simp at this; show t.length ≤ 8; omega⟩, h.c, by show (0 : Int) ≤ 0 ∧ (0 : Int) < 4; omega⟩
  · exact ⟨h.came, h.goes, h.c, by show 0 ≤ u.P + 1 ∧ u.P + 1 < 4; omega⟩
theorem tick_b {u : Un} (h : OkU u) : 0 ≤ (tickU u).1 ∧ (tickU u).1 < 256 := by
  unfold tickU
  split
  · split
    · exact ⟨Int.le_refl 0, by show (0 : Int) < _; omega⟩
    · rename_i b t e
      have h1 := h.goes
      rw [e] at h1
      exact h1.1 b List.mem_cons_self
  · exact ⟨Int.le_refl 0, by show (0 : Int) < _; omega⟩
end Go.Proofs.Ythdcealhhmfgcaa.Uart
