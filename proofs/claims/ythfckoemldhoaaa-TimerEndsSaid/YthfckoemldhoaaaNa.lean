/- Plain: a timer's words: what is read, written, what a tick makes. -/
import Derived.Test.YthfckoemldhoaaaBa
namespace Go.Proofs.Ythfckoemldhoaaa.Timer
set_option linter.unusedVariables false

structure St where
  C : Int
  L : Int
  K : Int
  H : Int
def zeroS : St := ⟨0, 0, 0, 0⟩
/-- Four words of 32 bits. -/
structure OkS (s : St) : Prop where
  c : 0 ≤ s.C ∧ s.C < 4294967296
  l : 0 ≤ s.L ∧ s.L < 4294967296
  k : 0 ≤ s.K ∧ s.K < 4294967296
  h : 0 ≤ s.H ∧ s.H < 4294967296
def ofS (s : St) : St := { s with K := s.K % 8 }
def readS (s : St) (reg : Int) : Int := if reg = 0 then s.C else if reg = 1 then s.L else if reg = 2 then s.K else if reg = 3 then s.H else 0
def writeS (s : St) (reg v : Int) : St := if reg = 0 then { s with C := v } else if reg = 1 then { s with L := v } else if reg = 2 then { s with K := v % 8 } else if reg = 3 then { s with H := 0 } else s
def incS (s : St) : Int := (s.C + 1) % 4294967296
def tickS (s : St) : St :=
  if s.K % 2 = 0 then s
  else if incS s ≠ s.L then { s with C := incS s }
  else if s.K / 4 = 1 then ⟨0, s.L, s.K, if s.H < 4294967295 then s.H + 1 else s.H⟩
  else ⟨incS s, s.L, s.K - 1, if s.H < 4294967295 then s.H + 1 else s.H⟩
def lineS (s : St) : Bool := decide (s.K / 2 % 2 = 1 ∧ 0 < s.H)
theorem okS_of {s : St} (h : OkS s) : OkS (ofS s) ∧ (ofS s).K < 8 := by
  have h1 := h.k
  have e : 0 ≤ s.K % 8 ∧ s.K % 8 < 8 := by omega
  exact ⟨⟨h.c, h.l, ⟨e.1, by show s.K % 8 < _; omega⟩, h.h⟩, e.2⟩
theorem okS_write {s : St} (h : OkS s) (h8 : s.K < 8) (reg v : Int) (hv : 0 ≤ v ∧ v < 4294967296) : OkS (writeS s reg v) ∧ (writeS s reg v).K < 8 := by
  have e : 0 ≤ v % 8 ∧ v % 8 < 8 := by omega
  unfold writeS
  split
  · exact ⟨⟨hv, h.l, h.k, h.h⟩, h8⟩
  split
  · exact ⟨⟨h.c, hv, h.k, h.h⟩, h8⟩
  split
  · exact ⟨⟨h.c, h.l, ⟨e.1, by show v % 8 < _; omega⟩, h.h⟩, e.2⟩
  split
  · exact ⟨⟨h.c, h.l, h.k, ⟨by show (0 : Int) ≤ 0; omega, by show (0 : Int) < _; omega⟩⟩, h8⟩
  · exact ⟨h, h8⟩
theorem okS_tick {s : St} (h : OkS s) (h8 : s.K < 8) : OkS (tickS s) ∧ (tickS s).K < 8 := by
  have h1 := h.c
  have h2 := h.k
  have h3 := h.h
  have e : 0 ≤ incS s ∧ incS s < 4294967296 := by unfold incS; omega
  have e2 : 0 ≤ (if s.H < 4294967295 then s.H + 1 else s.H) ∧ (if s.H < 4294967295 then s.H + 1 else s.H) < 4294967296 := by split <;> omega
  unfold tickS
  split
  · exact ⟨h, h8⟩
  split
  · exact ⟨⟨e, h.l, h.k, h.h⟩, h8⟩
  split
  · exact ⟨⟨⟨by show (0 : Int) ≤ 0; omega, by show (0 : Int) < _; omega⟩, h.l, h.k, e2⟩, h8⟩
  · exact ⟨⟨e, h.l, ⟨by show 0 ≤ s.K - 1; omega, by show s.K - 1 < _; omega⟩, e2⟩, by show s.K - 1 < 8; omega⟩
theorem read_b {s : St} (h : OkS s) (reg : Int) : 0 ≤ readS s reg ∧ readS s reg < 4294967296 := by
  unfold readS
  split
  · exact h.c
  split
  · exact h.l
  split
  · exact h.k
  split
  · exact h.h
  · omega
end Go.Proofs.Ythfckoemldhoaaa.Timer
