/- Plain: an engine's state: what is read, written, asked, what an answer makes of it. -/
import Derived.Test.YthpkebcedaakhaaBa
import Derived.Test.YthpkebcedaakhaaOw
namespace Go.Proofs.Ythpkebcedaakhaa.Dma
open Go.RowKit Fifo Orow
set_option linter.unusedVariables false

structure En where
  F : Int
  T : Int
  L : Int
  H : Int
  has : Bool
  busy : Bool
  den : Bool
  don : Bool
  cal : Bool
def zeroE : En := ⟨0, 0, 0, 0, false, false, false, false, false⟩
structure OkE (s : En) : Prop where
  f : 0 ≤ s.F ∧ s.F < 4294967296
  t : 0 ≤ s.T ∧ s.T < 4294967296
  l : 0 ≤ s.L ∧ s.L < 4294967296
  h : 0 ≤ s.H ∧ s.H < 4294967296
/-- What holds of each engine: one that holds is busy, one that holds nothing has no word, a busy one has words left. -/
structure InvE (s : En) : Prop where
  a : s.has = true → s.busy = true
  b : s.has = false → s.H = 0
  c : s.busy = true → 0 < s.L
def ofE (s : En) : En :=
  let b := s.busy && decide (0 < s.L)
  let h := s.has && b
  { s with busy := b, has := h, H := if h then s.H else 0 }
def bitV (b : Bool) (v : Int) : Int := if b then v else 0
def readE (s : En) (reg : Int) : Int :=
  if reg = 0 then s.F else if reg = 1 then s.T else if reg = 2 then s.L else if reg = 3 then bitV s.busy 1 + bitV s.den 2 + bitV s.don 4 + bitV s.cal 256 else 0
def ctrlE (s : En) (v : Int) : En :=
  if v % 2 = 0 then { s with cal := decide (v / 256 % 2 = 1), busy := false, has := false, H := 0 }
  else if s.busy then { s with cal := decide (v / 256 % 2 = 1) }
  else if 0 < s.L then { s with cal := decide (v / 256 % 2 = 1), has := false, H := 0, busy := true }
  else { s with cal := decide (v / 256 % 2 = 1), has := false, H := 0, don := true }
def writeE (s : En) (reg v : Int) : En :=
  if reg = 0 then (if s.busy then s else { s with F := v })
  else if reg = 1 then (if s.busy then s else { s with T := v })
  else if reg = 2 then (if s.busy then s else { s with L := v })
  else if reg = 3 then ctrlE s v
  else if reg = 4 then { s with den := false, don := false }
  else s
def plus4 (x : Int) : Int := (x + 4) % 4294967296
def toldE (s : En) (v err : Int) : En :=
  if err ≠ 0 then { s with has := false, H := 0, den := true, busy := false }
  else if s.has then
    (if s.L = 1 then { s with has := false, H := 0, T := plus4 s.T, L := 0, don := true, busy := false }
     else { s with has := false, H := 0, T := plus4 s.T, L := (s.L - 1) % 4294967296 })
  else { s with has := true, H := v, F := plus4 s.F }
def lineE (s : En) : Bool := s.cal && (s.den || s.don)
/-- An access as a value. -/
abbrev accV (W : Int) (wr : Bool) (A S D : Int) : Value := .agg #[.int .i64 W, .bool wr, .int .u32 A, .int .i64 S, .int .u32 D]
/-- What a busy one asks. -/
def nextE (s : En) (world : Int) : Value := if s.has then accV world true s.T 4 s.H else accV world false s.F 4 0
abbrev stE (s : En) : Value := .agg #[.int .u32 s.F, .int .u32 s.T, .int .u32 s.L, .int .u32 s.H, .bool s.has, .bool s.busy, .bool s.den, .bool s.don, .bool s.cal]
abbrev cellsE (s : En) : List Value := [.int .u32 s.F, .int .u32 s.T, .int .u32 s.L, .int .u32 s.H, .bool s.has, .bool s.busy, .bool s.den, .bool s.don, .bool s.cal]
theorem ok_zero : OkE zeroE := by constructor <;> (show (0 : Int) ≤ 0 ∧ (0 : Int) < _; omega)
theorem inv_zero : InvE zeroE := ⟨fun h => (by cases h), fun _ => rfl, fun h => (by cases h)⟩
theorem ok_of {s : En} (h : OkE s) : OkE (ofE s) := by
  refine ⟨h.f, h.t, h.l, ?_⟩
  unfold ofE
  simp only
  split
  · exact h.h
  · omega
theorem inv_of (s : En) : InvE (ofE s) := by
  obtain ⟨F, T, L, H, has, busy, den, don, cal⟩ := s
  constructor
  · cases has <;> cases busy <;> simp [ofE]
  · cases has <;> cases busy <;> simp [ofE] <;> omega
  · cases busy <;> simp [ofE]
theorem ok_ctrl {s : En} (h : OkE s) (v : Int) : OkE (ctrlE s v) := by
  unfold ctrlE
  split
  · exact ⟨h.f, h.t, h.l, by show (0 : Int) ≤ 0 ∧ (0 : Int) < _; omega⟩
  split
  · exact ⟨h.f, h.t, h.l, h.h⟩
  split
  · exact ⟨h.f, h.t, h.l, by show (0 : Int) ≤ 0 ∧ (0 : Int) < _; omega⟩
  · exact ⟨h.f, h.t, h.l, by show (0 : Int) ≤ 0 ∧ (0 : Int) < _; omega⟩
theorem inv_ctrl {s : En} (h : InvE s) (v : Int) : InvE (ctrlE s v) := by
  unfold ctrlE
  split
  · exact ⟨fun h => (by cases h), fun _ => rfl, fun h => (by cases h)⟩
  split
  · exact ⟨h.a, h.b, h.c⟩
  rename_i hb
  split
  · rename_i hl; exact ⟨fun h => (by cases h), fun _ => rfl, fun _ => hl⟩
  · exact ⟨fun h => (by cases h), fun _ => rfl, fun h => absurd h hb⟩
theorem ok_write {s : En} (h : OkE s) (reg v : Int) (hv : 0 ≤ v ∧ v < 4294967296) : OkE (writeE s reg v) := by
  unfold writeE
  split
  · split
    · exact h
    · exact ⟨hv, h.t, h.l, h.h⟩
  split
  · split
    · exact h
    · exact ⟨h.f, hv, h.l, h.h⟩
  split
  · split
    · exact h
    · exact ⟨h.f, h.t, hv, h.h⟩
  split
  · exact ok_ctrl h v
  split
  · exact ⟨h.f, h.t, h.l, h.h⟩
  · exact h
theorem inv_write {s : En} (h : InvE s) (reg v : Int) : InvE (writeE s reg v) := by
  unfold writeE
  split
  · split
    · exact h
    · exact ⟨h.a, h.b, h.c⟩
  split
  · split
    · exact h
    · exact ⟨h.a, h.b, h.c⟩
  split
  · split
    · exact h
    · rename_i hb; exact ⟨h.a, h.b, fun k => absurd k hb⟩
  split
  · exact inv_ctrl h v
  split
  · exact ⟨h.a, h.b, h.c⟩
  · exact h
theorem ok_told {s : En} (h : OkE s) (v err : Int) (hv : 0 ≤ v ∧ v < 4294967296) : OkE (toldE s v err) := by
  have p : ∀ x : Int, 0 ≤ plus4 x ∧ plus4 x < 4294967296 := fun x => by unfold plus4; omega
  unfold toldE
  split
  · exact ⟨h.f, h.t, h.l, by show (0 : Int) ≤ 0 ∧ (0 : Int) < _; omega⟩
  split
  · split
    · exact ⟨h.f, p _, by show (0 : Int) ≤ 0 ∧ (0 : Int) < _; omega, by show (0 : Int) ≤ 0 ∧ (0 : Int) < _; omega⟩
    · exact ⟨h.f, p _, by show 0 ≤ (s.L - 1) % 4294967296 ∧ (s.L - 1) % 4294967296 < _; omega, by show (0 : Int) ≤ 0 ∧ (0 : Int) < _; omega⟩
  · exact ⟨p _, h.t, h.l, hv⟩
theorem inv_told {s : En} (o : OkE s) (h : InvE s) (hb : s.busy = true) (v err : Int) : InvE (toldE s v err) := by
  have hl := h.c hb
  have ho := o.l
  unfold toldE
  split
  · exact ⟨fun h => (by cases h), fun _ => rfl, fun h => (by cases h)⟩
  split
  · split
    · exact ⟨fun h => (by cases h), fun _ => rfl, fun h => (by cases h)⟩
    · exact ⟨fun h => (by cases h), fun _ => rfl, fun _ => by show 0 < (s.L - 1) % 4294967296; omega⟩
  · exact ⟨fun _ => hb, fun h => (by cases h), fun _ => hl⟩
theorem read_b {s : En} (h : OkE s) (reg : Int) : 0 ≤ readE s reg ∧ readE s reg < 4294967296 := by
  have p : ∀ (b : Bool) (x : Int), 0 ≤ x → 0 ≤ bitV b x ∧ bitV b x ≤ x := fun b x hx => by cases b <;> simp [bitV] <;> omega
  have h1 := p s.busy 1 (by omega)
  have h2 := p s.den 2 (by omega)
  have h3 := p s.don 4 (by omega)
  have h4 := p s.cal 256 (by omega)
  unfold readE
  split
  · exact h.f
  split
  · exact h.t
  split
  · exact h.l
  split
  · omega
  · omega
end Go.Proofs.Ythpkebcedaakhaa.Dma
