/- Put together: Da, Du, Dv, Dt, Dw. -/
import Derived.Test.YtknhgfofmkpnfaaGreatBa
import Derived.Test.YtknhgfofmkpnfaaGreatOw
import Derived.Test.YtknhgfofmkpnfaaGreatZa
import Derived.Laws.BitsAllLaws
import Derived.BigQuiet
import Derived.BigRegion
import Derived.LaidEqlPtr
import Derived.Deep.RegionWith
import Derived.Defers
import Derived.Recover
import Derived.WalkMore
import Derived.Scope
/- Plain: an engine's state: what is read, written, asked, what an answer makes of it. -/
namespace Go.Proofs.YtknhgfofmkpnfaaGreat.Dma
open Go.RowKit Fifo Orow
set_option linter.unusedVariables false

structure En where
  F : Int
  T : Int
  L : Int
  H : Int
  has : Bool
  busy : Bool
  den : Bool
  don : Bool
  cal : Bool
def zeroE : En := ⟨0, 0, 0, 0, false, false, false, false, false⟩
structure OkE (s : En) : Prop where
  f : 0 ≤ s.F ∧ s.F < 4294967296
  t : 0 ≤ s.T ∧ s.T < 4294967296
  l : 0 ≤ s.L ∧ s.L < 4294967296
  h : 0 ≤ s.H ∧ s.H < 4294967296
/-- What holds of each engine: one that holds is busy, one that holds nothing has no word, a busy one has words left. -/
structure InvE (s : En) : Prop where
  a : s.has = true → s.busy = true
  b : s.has = false → s.H = 0
  c : s.busy = true → 0 < s.L
def ofE (s : En) : En :=
  let b := s.busy && decide (0 < s.L)
  let h := s.has && b
  { s with busy := b, has := h, H := if h then s.H else 0 }
def bitV (b : Bool) (v : Int) : Int := if b then v else 0
def readE (s : En) (reg : Int) : Int :=
  if reg = 0 then s.F else if reg = 1 then s.T else if reg = 2 then s.L else if reg = 3 then bitV s.busy 1 + bitV s.den 2 + bitV s.don 4 + bitV s.cal 256 else 0
def ctrlE (s : En) (v : Int) : En :=
  if v % 2 = 0 then { s with cal := decide (v / 256 % 2 = 1), busy := false, has := false, H := 0 }
  else if s.busy then { s with cal := decide (v / 256 % 2 = 1) }
  else if 0 < s.L then { s with cal := decide (v / 256 % 2 = 1), has := false, H := 0, busy := true }
  else { s with cal := decide (v / 256 % 2 = 1), has := false, H := 0, don := true }
def writeE (s : En) (reg v : Int) : En :=
  if reg = 0 then (if s.busy then s else { s with F := v })
  else if reg = 1 then (if s.busy then s else { s with T := v })
  else if reg = 2 then (if s.busy then s else { s with L := v })
  else if reg = 3 then ctrlE s v
  else if reg = 4 then { s with den := false, don := false }
  else s
def plus4 (x : Int) : Int := (x + 4) % 4294967296
def toldE (s : En) (v err : Int) : En :=
  if err ≠ 0 then { s with has := false, H := 0, den := true, busy := false }
  else if s.has then
    (if s.L = 1 then { s with has := false, H := 0, T := plus4 s.T, L := 0, don := true, busy := false }
     else { s with has := false, H := 0, T := plus4 s.T, L := (s.L - 1) % 4294967296 })
  else { s with has := true, H := v, F := plus4 s.F }
def lineE (s : En) : Bool := s.cal && (s.den || s.don)
/-- An access as a value. -/
abbrev accV (W : Int) (wr : Bool) (A S D : Int) : Value := .agg #[.int .i64 W, .bool wr, .int .u32 A, .int .i64 S, .int .u32 D]
/-- What a busy one asks. -/
def nextE (s : En) (world : Int) : Value := if s.has then accV world true s.T 4 s.H else accV world false s.F 4 0
abbrev stE (s : En) : Value := .agg #[.int .u32 s.F, .int .u32 s.T, .int .u32 s.L, .int .u32 s.H, .bool s.has, .bool s.busy, .bool s.den, .bool s.don, .bool s.cal]
abbrev cellsE (s : En) : List Value := [.int .u32 s.F, .int .u32 s.T, .int .u32 s.L, .int .u32 s.H, .bool s.has, .bool s.busy, .bool s.den, .bool s.don, .bool s.cal]
theorem ok_zero : OkE zeroE := by constructor <;> (show (0 : Int) ≤ 0 ∧ (0 : Int) < _; omega)
theorem inv_zero : InvE zeroE := ⟨fun h => (by cases h), fun _ => rfl, fun h => (by cases h)⟩
theorem ok_of {s : En} (h : OkE s) : OkE (ofE s) := by
  refine ⟨h.f, h.t, h.l, ?_⟩
  unfold ofE
  simp only
  split
  · exact h.h
  · omega
theorem inv_of (s : En) : InvE (ofE s) := by
  obtain ⟨F, T, L, H, has, busy, den, don, cal⟩ := s
  constructor
  · cases has <;> cases busy <;> simp [ofE]
  · cases has <;> cases busy <;> simp [ofE] <;> omega
  · cases busy <;> simp [ofE]
theorem ok_ctrl {s : En} (h : OkE s) (v : Int) : OkE (ctrlE s v) := by
  unfold ctrlE
  split
  · exact ⟨h.f, h.t, h.l, by show (0 : Int) ≤ 0 ∧ (0 : Int) < _; omega⟩
  split
  · exact ⟨h.f, h.t, h.l, h.h⟩
  split
  · exact ⟨h.f, h.t, h.l, by show (0 : Int) ≤ 0 ∧ (0 : Int) < _; omega⟩
  · exact ⟨h.f, h.t, h.l, by show (0 : Int) ≤ 0 ∧ (0 : Int) < _; omega⟩
theorem inv_ctrl {s : En} (h : InvE s) (v : Int) : InvE (ctrlE s v) := by
  unfold ctrlE
  split
  · exact ⟨fun h => (by cases h), fun _ => rfl, fun h => (by cases h)⟩
  split
  · exact ⟨h.a, h.b, h.c⟩
  rename_i hb
  split
  · rename_i hl; exact ⟨fun h => (by cases h), fun _ => rfl, fun _ => hl⟩
  · exact ⟨fun h => (by cases h), fun _ => rfl, fun h => absurd h hb⟩
theorem ok_write {s : En} (h : OkE s) (reg v : Int) (hv : 0 ≤ v ∧ v < 4294967296) : OkE (writeE s reg v) := by
  unfold writeE
  split
  · split
    · exact h
    · exact ⟨hv, h.t, h.l, h.h⟩
  split
  · split
    · exact h
    · exact ⟨h.f, hv, h.l, h.h⟩
  split
  · split
    · exact h
    · exact ⟨h.f, h.t, hv, h.h⟩
  split
  · exact ok_ctrl h v
  split
  · exact ⟨h.f, h.t, h.l, h.h⟩
  · exact h
theorem inv_write {s : En} (h : InvE s) (reg v : Int) : InvE (writeE s reg v) := by
  unfold writeE
  split
  · split
    · exact h
    · exact ⟨h.a, h.b, h.c⟩
  split
  · split
    · exact h
    · exact ⟨h.a, h.b, h.c⟩
  split
  · split
    · exact h
    · rename_i hb; exact ⟨h.a, h.b, fun k => absurd k hb⟩
  split
  · exact inv_ctrl h v
  split
  · exact ⟨h.a, h.b, h.c⟩
  · exact h
theorem ok_told {s : En} (h : OkE s) (v err : Int) (hv : 0 ≤ v ∧ v < 4294967296) : OkE (toldE s v err) := by
  have p : ∀ x : Int, 0 ≤ plus4 x ∧ plus4 x < 4294967296 := fun x => by unfold plus4; omega
  unfold toldE
  split
  · exact ⟨h.f, h.t, h.l, by show (0 : Int) ≤ 0 ∧ (0 : Int) < _; omega⟩
  split
  · split
    · exact ⟨h.f, p _, by show (0 : Int) ≤ 0 ∧ (0 : Int) < _; omega, by show (0 : Int) ≤ 0 ∧ (0 : Int) < _; omega⟩
    · exact ⟨h.f, p _, by show 0 ≤ (s.L - 1) % 4294967296 ∧ (s.L - 1) % 4294967296 < _; omega, by show (0 : Int) ≤ 0 ∧ (0 : Int) < _; omega⟩
  · exact ⟨p _, h.t, h.l, hv⟩
theorem inv_told {s : En} (o : OkE s) (h : InvE s) (hb : s.busy = true) (v err : Int) : InvE (toldE s v err) := by
  have hl := h.c hb
  have ho := o.l
  unfold toldE
  split
  · exact ⟨fun h => (by cases h), fun _ => rfl, fun h => (by cases h)⟩
  split
  · split
    · exact ⟨fun h => (by cases h), fun _ => rfl, fun h => (by cases h)⟩
    · exact ⟨fun h => (by cases h), fun _ => rfl, fun _ => by show 0 < (s.L - 1) % 4294967296; omega⟩
  · exact ⟨fun _ => hb, fun h => (by cases h), fun _ => hl⟩
theorem read_b {s : En} (h : OkE s) (reg : Int) : 0 ≤ readE s reg ∧ readE s reg < 4294967296 := by
  have p : ∀ (b : Bool) (x : Int), 0 ≤ x → 0 ≤ bitV b x ∧ bitV b x ≤ x := fun b x hx => by cases b <;> simp [bitV] <;> omega
  have h1 := p s.busy 1 (by omega)
  have h2 := p s.den 2 (by omega)
  have h3 := p s.don 4 (by omega)
  have h4 := p s.cal 256 (by omega)
  unfold readE
  split
  · exact h.f
  split
  · exact h.t
  split
  · exact h.l
  split
  · omega
  · omega
end Go.Proofs.YtknhgfofmkpnfaaGreat.Dma
/- Package dma: the small functions. EX w b s k x: an engine of the state s lies in block b; k: whether it asks; x: what it says of where it lies. -/
namespace Go.Proofs.YtknhgfofmkpnfaaGreat.Dma
open Go.RowKit Go.Maps Go.ChangeShapes Go.WideShapes Go.ChangeAt Fifo Orow Word Fmap
set_option linter.unusedVariables false

theorem ret_u32' {a b : Int} (h : a = b) : Ending.returned (.int .u32 a) = .returned (.int .u32 b) := by rw [h]
theorem ret_bool' {x y : Bool} (h : x = y) : Ending.returned (.bool x) = .returned (.bool y) := by rw [h]
abbrev cellsQ (s : En) (k : Bool) (x : Value) : List Value := [.int .u32 s.F, .int .u32 s.T, .int .u32 s.L, .int .u32 s.H, .bool s.has, .bool s.busy, .bool s.den, .bool s.don, .bool s.cal, .bool k, x]
structure EX (w : World) (b : Nat) (s : En) (k : Bool) (x : Value) : Prop where
  blk : Blk w b 142 (cellsQ s k x)
  ok : OkE s
theorem EX.only {S : Nat → Prop} {w w' : World} {b : Nat} {s : En} {k : Bool} {x : Value} (h : EX w b s k x) (ho : Only S w w') (hn : ¬ S b) : EX w' b s k x := ⟨h.blk.only ho hn, h.ok⟩
theorem EX.keep {w w' : World} {b : Nat} {s : En} {k : Bool} {x : Value} (h : EX w b s k x) (hb : Below w.heap.size w w') : EX w' b s k x := ⟨h.blk.keep hb, h.ok⟩
theorem EX.lt {w : World} {b : Nat} {s : En} {k : Bool} {x : Value} (h : EX w b s k x) : b < w.heap.size := h.blk.lt
theorem EX.c {w : World} {b : Nat} {s : En} {k : Bool} {x : Value} (h : EX w b s k x) (i : Nat) {v : Value} (hv : (cellsQ s k x)[i]? = some v) : w.cell? ⟨b, i, none⟩ = some v := h.blk.at i hv
theorem ex_set {w : World} {b : Nat} {s s' : En} {k k' : Bool} {x : Value} (h : EX w b s k x) (i : Nat) (v : Value) (hc : (cellsQ s k x).set i v = cellsQ s' k' x) (hk : OkE s') : EX (w.setCell ⟨b, i, none⟩ v) b s' k' x ∧ Only (fun j => j = b) w (w.setCell ⟨b, i, none⟩ v) :=
  ⟨⟨by have := h.blk.set i v; rwa [hc] at this, hk⟩, (Only.refl (fun j => j = b) w).setCell (p := ⟨b, i, none⟩) rfl v⟩
theorem ex_set2 {w : World} {b : Nat} {s s' s'' : En} {k k' k'' : Bool} {x : Value} (h : EX w b s k x) (i : Nat) (v : Value) (hc : (cellsQ s k x).set i v = cellsQ s' k' x) (hk : OkE s') (i2 : Nat) (v2 : Value) (hc2 : (cellsQ s' k' x).set i2 v2 = cellsQ s'' k'' x) (hk2 : OkE s'') :
    EX ((w.setCell ⟨b, i, none⟩ v).setCell ⟨b, i2, none⟩ v2) b s'' k'' x ∧ Only (fun j => j = b) w ((w.setCell ⟨b, i, none⟩ v).setCell ⟨b, i2, none⟩ v2) := by
  have h1 := ex_set h i v hc hk
  have h2 := ex_set h1.1 i2 v2 hc2 hk2
  exact ⟨h2.1, h1.2.trans h2.2⟩
theorem and_1 {v : Int} (h : 0 ≤ v ∧ v < 4294967296) : bits .and .u32 v 1 = v % 2 := by
  obtain ⟨x, rfl⟩ := Int.eq_ofNat_of_zero_le h.1
  rw [show (1 : Int) = ((1 : Nat) : Int) from rfl, u32_and_nat x 1 (by omega) (by omega), show (1 : Nat) = 2 ^ 1 - 1 from rfl, Nat.and_two_pow_sub_one_eq_mod]
  rfl
theorem nat_and_256 (x : Nat) : x &&& 2 ^ 8 = x / 2 ^ 8 % 2 * 2 ^ 8 := by
  apply Nat.eq_of_testBit_eq
  intro i
  rw [Nat.testBit_and, Nat.testBit_two_pow, Nat.testBit_mul_two_pow]
  by_cases e : 8 = i
  · subst e
    simp [Nat.testBit_eq_decide_div_mod_eq]
  · rw [decide_eq_false e, Bool.and_false]
    by_cases g : 8 ≤ i
    · obtain ⟨j, rfl⟩ : ∃ j, i = 8 + (j + 1) := ⟨i - 9, by omega⟩
      rw [show 8 + (j + 1) - 8 = j + 1 by omega, Nat.testBit_lt_two_pow (i := j + 1)]
      · simp
      · have := Nat.pow_le_pow_right (n := 2) (by omega) (show 1 ≤ j + 1 by omega)
        omega
    · simp [g]
theorem and_256 {v : Int} (h : 0 ≤ v ∧ v < 4294967296) : bits .and .u32 v 256 = v / 256 % 2 * 256 := by
  obtain ⟨x, rfl⟩ := Int.eq_ofNat_of_zero_le h.1
  rw [show (256 : Int) = ((256 : Nat) : Int) from rfl, u32_and_nat x 256 (by omega) (by omega), show (256 : Nat) = 2 ^ 8 from rfl, nat_and_256]
  omega
/-- What a state's functions are asked of: what they leave. -/
abbrev Leaves1 (b : Nat) (w : World) (s' : En) (k : Bool) (x : Value) (e : Ending) (w' : World) : Prop := e = .returned (.tuple #[]) ∧ EX w' b s' k x ∧ Only (fun j => j = b) w w'
theorem fromNow_any (b : Nat) (s : En) (k : Bool) (x : Value) (w : World) (h : EX w b s k x) :
    Calls Tryz.prog 273 #[.pointer (some ⟨b, 0, none⟩)] w fun e w' => e = .returned (.int .u32 s.F) ∧ w = w' := by
  have c := h.c 0 rfl
  clear h
  go_enter Tryz.func273, Tryz.ntmps273
  go_wp2_with fail
  go_ret
  exact ⟨rfl, rfl⟩
theorem toNow_any (b : Nat) (s : En) (k : Bool) (x : Value) (w : World) (h : EX w b s k x) :
    Calls Tryz.prog 274 #[.pointer (some ⟨b, 0, none⟩)] w fun e w' => e = .returned (.int .u32 s.T) ∧ w = w' := by
  have c := h.c 1 rfl
  clear h
  go_enter Tryz.func274, Tryz.ntmps274
  go_wp2_with fail
  go_ret
  exact ⟨rfl, rfl⟩
theorem leftNow_any (b : Nat) (s : En) (k : Bool) (x : Value) (w : World) (h : EX w b s k x) :
    Calls Tryz.prog 275 #[.pointer (some ⟨b, 0, none⟩)] w fun e w' => e = .returned (.int .u32 s.L) ∧ w = w' := by
  have c := h.c 2 rfl
  clear h
  go_enter Tryz.func275, Tryz.ntmps275
  go_wp2_with fail
  go_ret
  exact ⟨rfl, rfl⟩
set_option maxHeartbeats 4000000 in
theorem ctrlNow_core (b : Nat) (B D N C : Bool) (w : World) (c5 : w.cell? ⟨b, 5, none⟩ = some (.bool B)) (c6 : w.cell? ⟨b, 6, none⟩ = some (.bool D)) (c7 : w.cell? ⟨b, 7, none⟩ = some (.bool N)) (c8 : w.cell? ⟨b, 8, none⟩ = some (.bool C)) :
    Calls Tryz.prog 276 #[.pointer (some ⟨b, 0, none⟩)] w fun e w' => e = .returned (.int .u32 (bitV B 1 + bitV D 2 + bitV N 4 + bitV C 256)) ∧ w = w' := by
  have o0_1 : bits .or .u32 0 1 = 1 := by decide
  have o0_2 : bits .or .u32 0 2 = 2 := by decide
  have o1_2 : bits .or .u32 1 2 = 3 := by decide
  have o0_4 : bits .or .u32 0 4 = 4 := by decide
  have o1_4 : bits .or .u32 1 4 = 5 := by decide
  have o2_4 : bits .or .u32 2 4 = 6 := by decide
  have o3_4 : bits .or .u32 3 4 = 7 := by decide
  have o0_256 : bits .or .u32 0 256 = 256 := by decide
  have o1_256 : bits .or .u32 1 256 = 257 := by decide
  have o2_256 : bits .or .u32 2 256 = 258 := by decide
  have o3_256 : bits .or .u32 3 256 = 259 := by decide
  have o4_256 : bits .or .u32 4 256 = 260 := by decide
  have o5_256 : bits .or .u32 5 256 = 261 := by decide
  have o6_256 : bits .or .u32 6 256 = 262 := by decide
  have o7_256 : bits .or .u32 7 256 = 263 := by decide
  cases B <;> cases D <;> cases N <;> cases C
  all_goals
    go_enter Tryz.func276, Tryz.ntmps276
    go_wp2_with fail
    go_ret
    exact ⟨by first | rfl | exact ret_u32' (by simp [bitV]), rfl⟩
theorem ctrlNow_any (b : Nat) (s : En) (k : Bool) (x : Value) (w : World) (h : EX w b s k x) :
    Calls Tryz.prog 276 #[.pointer (some ⟨b, 0, none⟩)] w fun e w' => e = .returned (.int .u32 (bitV s.busy 1 + bitV s.den 2 + bitV s.don 4 + bitV s.cal 256)) ∧ w = w' :=
  ctrlNow_core b _ _ _ _ w (h.c 5 rfl) (h.c 6 rfl) (h.c 7 rfl) (h.c 8 rfl)
theorem setIdle_busy (b i : Nat) (v : Int) (w : World) (c5 : w.cell? ⟨b, 5, none⟩ = some (.bool true)) :
    Calls Tryz.prog 282 #[.pointer (some ⟨b, 0, none⟩), .pointer (some ⟨b, i, none⟩), .int .u32 v] w fun e w' => e = .returned (.tuple #[]) ∧ w' = w := by
  go_enter Tryz.func282, Tryz.ntmps282
  go_wp2_with fail
  go_end0
  exact ⟨rfl, rfl⟩
theorem setIdle_idle (b i : Nat) (v : Int) (old : Value) (w : World) (c5 : w.cell? ⟨b, 5, none⟩ = some (.bool false)) (ci : w.cell? ⟨b, i, none⟩ = some old) (fi : w.frozen? ⟨b, i, none⟩ = false) :
    Calls Tryz.prog 282 #[.pointer (some ⟨b, 0, none⟩), .pointer (some ⟨b, i, none⟩), .int .u32 v] w fun e w' => e = .returned (.tuple #[]) ∧ w' = w.setCell ⟨b, i, none⟩ (.int .u32 v) := by
  go_enter Tryz.func282, Tryz.ntmps282
  go_wp2_with fail
  go_end0
  exact ⟨rfl, rfl⟩
theorem setFrom_any (b : Nat) (s : En) (k : Bool) (x : Value) (v : Int) (w : World) (hv : 0 ≤ v ∧ v < 4294967296) (h : EX w b s k x) :
    Calls Tryz.prog 277 #[.pointer (some ⟨b, 0, none⟩), .int .u32 v] w (Leaves1 b w (writeE s 0 v) k x) := by
  have O := Lib.hid (ok_write h.ok 0 v hv)
  obtain ⟨F, T, L, H, has, busy, den, don, cal⟩ := s
  cases busy
  · have C := Lib.hid (setIdle_idle b 0 v _ w (h.c 5 rfl) (h.c 0 rfl) (h.blk.frozen 0))
    have R := Lib.hid (ex_set h 0 (.int .u32 v) (s' := writeE ⟨F, T, L, H, has, false, den, don, cal⟩ 0 v) (k' := k) rfl O.out)
    clear h hv O
    go_enter Tryz.func277, Tryz.ntmps277
    go_wp2_with fail
    refine C.out.mono ?_
    rintro e w1 ⟨rfl, rfl⟩
    go_wp2_with fail
    go_end0
    exact ⟨rfl, R.out⟩
  · have C := Lib.hid (setIdle_busy b 0 v w (h.c 5 rfl))
    have R := Lib.hid (show EX w b (writeE ⟨F, T, L, H, has, true, den, don, cal⟩ 0 v) k x from h)
    clear h hv O
    go_enter Tryz.func277, Tryz.ntmps277
    go_wp2_with fail
    refine C.out.mono ?_
    rintro e w1 ⟨rfl, rfl⟩
    go_wp2_with fail
    go_end0
    exact ⟨rfl, R.out, Only.refl _ _⟩
theorem setTo_any (b : Nat) (s : En) (k : Bool) (x : Value) (v : Int) (w : World) (hv : 0 ≤ v ∧ v < 4294967296) (h : EX w b s k x) :
    Calls Tryz.prog 278 #[.pointer (some ⟨b, 0, none⟩), .int .u32 v] w (Leaves1 b w (writeE s 1 v) k x) := by
  have O := Lib.hid (ok_write h.ok 1 v hv)
  obtain ⟨F, T, L, H, has, busy, den, don, cal⟩ := s
  cases busy
  · have C := Lib.hid (setIdle_idle b 1 v _ w (h.c 5 rfl) (h.c 1 rfl) (h.blk.frozen 1))
    have R := Lib.hid (ex_set h 1 (.int .u32 v) (s' := writeE ⟨F, T, L, H, has, false, den, don, cal⟩ 1 v) (k' := k) rfl O.out)
    clear h hv O
    go_enter Tryz.func278, Tryz.ntmps278
    go_wp2_with fail
    refine C.out.mono ?_
    rintro e w1 ⟨rfl, rfl⟩
    go_wp2_with fail
    go_end0
    exact ⟨rfl, R.out⟩
  · have C := Lib.hid (setIdle_busy b 1 v w (h.c 5 rfl))
    have R := Lib.hid (show EX w b (writeE ⟨F, T, L, H, has, true, den, don, cal⟩ 1 v) k x from h)
    clear h hv O
    go_enter Tryz.func278, Tryz.ntmps278
    go_wp2_with fail
    refine C.out.mono ?_
    rintro e w1 ⟨rfl, rfl⟩
    go_wp2_with fail
    go_end0
    exact ⟨rfl, R.out, Only.refl _ _⟩
theorem setLeft_any (b : Nat) (s : En) (k : Bool) (x : Value) (v : Int) (w : World) (hv : 0 ≤ v ∧ v < 4294967296) (h : EX w b s k x) :
    Calls Tryz.prog 279 #[.pointer (some ⟨b, 0, none⟩), .int .u32 v] w (Leaves1 b w (writeE s 2 v) k x) := by
  have O := Lib.hid (ok_write h.ok 2 v hv)
  obtain ⟨F, T, L, H, has, busy, den, don, cal⟩ := s
  cases busy
  · have C := Lib.hid (setIdle_idle b 2 v _ w (h.c 5 rfl) (h.c 2 rfl) (h.blk.frozen 2))
    have R := Lib.hid (ex_set h 2 (.int .u32 v) (s' := writeE ⟨F, T, L, H, has, false, den, don, cal⟩ 2 v) (k' := k) rfl O.out)
    clear h hv O
    go_enter Tryz.func279, Tryz.ntmps279
    go_wp2_with fail
    refine C.out.mono ?_
    rintro e w1 ⟨rfl, rfl⟩
    go_wp2_with fail
    go_end0
    exact ⟨rfl, R.out⟩
  · have C := Lib.hid (setIdle_busy b 2 v w (h.c 5 rfl))
    have R := Lib.hid (show EX w b (writeE ⟨F, T, L, H, has, true, den, don, cal⟩ 2 v) k x from h)
    clear h hv O
    go_enter Tryz.func279, Tryz.ntmps279
    go_wp2_with fail
    refine C.out.mono ?_
    rintro e w1 ⟨rfl, rfl⟩
    go_wp2_with fail
    go_end0
    exact ⟨rfl, R.out, Only.refl _ _⟩
theorem hold_any (b : Nat) (v : Int) (o3 o4 : Value) (w : World) (c3 : w.cell? ⟨b, 3, none⟩ = some o3) (c4 : w.cell? ⟨b, 4, none⟩ = some o4) (f3 : w.frozen? ⟨b, 3, none⟩ = false) (f4 : w.frozen? ⟨b, 4, none⟩ = false) :
    Calls Tryz.prog 90 #[.pointer (some ⟨b, 0, none⟩), .int .u32 v] w fun e w' => e = .returned (.tuple #[]) ∧ w' = (w.setCell ⟨b, 3, none⟩ (.int .u32 v)).setCell ⟨b, 4, none⟩ (.bool true) := by
  go_enter Tryz.func90, Tryz.ntmps90
  go_wp2_with fail
  go_end0
  exact ⟨rfl, rfl⟩
theorem ok_H {s : En} (h : OkE s) (v : Int) (hv : 0 ≤ v ∧ v < 4294967296) (b : Bool) : OkE { s with H := v, has := b } := ⟨h.f, h.t, h.l, hv⟩
theorem ok_0 {s : En} (h : OkE s) (b : Bool) : OkE { s with H := 0, has := b } := ok_H h 0 ⟨by show (0 : Int) ≤ 0; omega, by show (0 : Int) < _; omega⟩ b
theorem drop_any (b : Nat) (s : En) (k : Bool) (x : Value) (w : World) (h : EX w b s k x) :
    Calls Tryz.prog 91 #[.pointer (some ⟨b, 0, none⟩)] w (Leaves1 b w { s with H := 0, has := false } k x) := by
  have R := Lib.hid (ex_set2 h 3 (.int .u32 0) (s' := { s with H := 0 }) (k' := k) rfl (ok_0 h.ok s.has) 4 (.bool false) (s'' := { s with H := 0, has := false }) (k'' := k) rfl (ok_0 h.ok false))
  have c3 := h.c 3 rfl
  have c4 := h.c 4 rfl
  have f3 := h.blk.frozen 3
  have f4 := h.blk.frozen 4
  clear h
  go_enter Tryz.func91, Tryz.ntmps91
  go_wp2_with fail
  go_end0
  exact ⟨rfl, R.out⟩
theorem stop_any (b : Nat) (s : En) (k : Bool) (x : Value) (w : World) (h : EX w b s k x) :
    Calls Tryz.prog 92 #[.pointer (some ⟨b, 0, none⟩)] w (Leaves1 b w { s with H := 0, has := false, busy := false } k x) := by
  have D := Lib.hid (drop_any b s k x w h)
  have O := Lib.hid (ok_0 h.ok false)
  clear h
  go_enter Tryz.func92, Tryz.ntmps92
  go_wp2_with fail
  refine D.out.mono ?_
  rintro e w1 ⟨rfl, h1, h2⟩
  have R := Lib.hid (ex_set h1 5 (.bool false) (s' := { s with H := 0, has := false, busy := false }) (k' := k) rfl ⟨O.out.f, O.out.t, O.out.l, O.out.h⟩)
  have HO := Lib.hid h2
  have c5 := h1.c 5 rfl
  have f5 := h1.blk.frozen 5
  clear h1 h2
  go_wp2_with fail
  go_end0
  exact ⟨rfl, R.out.1, HO.out.trans R.out.2⟩
def beginE (s : En) : En := if 0 < s.L then { s with busy := true } else { s with don := true }
theorem begin_any (b : Nat) (s : En) (k : Bool) (x : Value) (w : World) (h : EX w b s k x) :
    Calls Tryz.prog 270 #[.pointer (some ⟨b, 0, none⟩)] w (Leaves1 b w (beginE s) k x) := by
  have hl := h.ok.l.1
  have c2 := h.c 2 rfl
  have c5 := h.c 5 rfl
  have c7 := h.c 7 rfl
  have f5 := h.blk.frozen 5
  have f7 := h.blk.frozen 7
  by_cases e : s.L = 0
  · have R := Lib.hid (ex_set h 7 (.bool true) (s' := beginE s) (k' := k) (by unfold beginE; rw [if_neg (by omega)]; rfl) (by unfold beginE; rw [if_neg (by omega)]; exact ⟨h.ok.f, h.ok.t, h.ok.l, h.ok.h⟩))
    have d : (s.L == 0) = true := beq_iff_eq.2 e
    clear h hl e
    go_enter Tryz.func270, Tryz.ntmps270
    go_wp2_with fail
    refine bodyPost_ret (results_none rfl _ _ _) rfl ?_
    exact ⟨rfl, R.out⟩
  · have R := Lib.hid (ex_set h 5 (.bool true) (s' := beginE s) (k' := k) (by unfold beginE; rw [if_pos (by omega)]; rfl) (by unfold beginE; rw [if_pos (by omega)]; exact ⟨h.ok.f, h.ok.t, h.ok.l, h.ok.h⟩))
    have d : (s.L == 0) = false := by simpa using e
    clear h hl e
    go_enter Tryz.func270, Tryz.ntmps270
    go_wp2_with fail
    go_end0
    exact ⟨rfl, R.out⟩
theorem forget_any (b : Nat) (s : En) (k : Bool) (x : Value) (v : Int) (w : World) (hv : 0 ≤ v ∧ v < 4294967296) (h : EX w b s k x) :
    Calls Tryz.prog 281 #[.pointer (some ⟨b, 0, none⟩), .int .u32 v] w (Leaves1 b w (writeE s 4 v) k x) := by
  have R := Lib.hid (ex_set2 h 6 (.bool false) (s' := { s with den := false }) (k' := k) rfl ⟨h.ok.f, h.ok.t, h.ok.l, h.ok.h⟩ 7 (.bool false) (s'' := writeE s 4 v) (k'' := k) rfl (ok_write h.ok 4 v hv))
  have c6 := h.c 6 rfl
  have c7 := h.c 7 rfl
  have f6 := h.blk.frozen 6
  have f7 := h.blk.frozen 7
  clear h hv
  go_enter Tryz.func281, Tryz.ntmps281
  go_wp2_with fail
  go_end0
  exact ⟨rfl, R.out⟩
def ctrlC (s : En) (n : Int) (C : Bool) : En := if n = 0 then { s with cal := C, busy := false, has := false, H := 0 } else if s.busy then { s with cal := C } else if 0 < s.L then { s with cal := C, has := false, H := 0, busy := true } else { s with cal := C, has := false, H := 0, don := true }
theorem setCtrl_core (b : Nat) (F T L H : Int) (has busy den don cal : Bool) (k : Bool) (x : Value) (v n m : Int) (C : Bool) (w : World) (a1 : bits .and .u32 v 1 = n) (a2 : bits .and .u32 v 256 = m) (ec : (m != 0) = C) (hi : InvE ⟨F, T, L, H, has, busy, den, don, cal⟩) (h : EX w b ⟨F, T, L, H, has, busy, den, don, cal⟩ k x) :
    Calls Tryz.prog 280 #[.pointer (some ⟨b, 0, none⟩), .int .u32 v] w (Leaves1 b w (ctrlC ⟨F, T, L, H, has, busy, den, don, cal⟩ n C) k x) := by
  have R := Lib.hid (ex_set h 8 (.bool C) (s' := ⟨F, T, L, H, has, busy, den, don, C⟩) (k' := k) rfl ⟨h.ok.f, h.ok.t, h.ok.l, h.ok.h⟩)
  have c8 := h.c 8 rfl
  have c5 := h.c 5 rfl
  have f8 := h.blk.frozen 8
  clear h
  by_cases e : n = 0
  · have d : (n == 0) = true := beq_iff_eq.2 e
    rw [show ctrlC ⟨F, T, L, H, has, busy, den, don, cal⟩ n C = ⟨F, T, L, 0, false, false, den, don, C⟩ from if_pos e]
    clear e hi
    have G := Lib.hid (fun w => stop_any b ⟨F, T, L, H, has, busy, den, don, C⟩ k x w)
    go_enter Tryz.func280, Tryz.ntmps280
    go_wp2_with fail
    refine calls_letter ?_
    intro W hW
    have R1 := Lib.hid (show EX W b ⟨F, T, L, H, has, busy, den, don, C⟩ k x ∧ Only (fun j => j = b) w W by rw [hW.out]; exact R.out)
    clear hW R c8 f8 c5
    refine (G.out _ R1.out.1).mono ?_
    rintro e w1 ⟨rfl, h1, h2⟩
    have RR := Lib.hid (And.intro h1 (R1.out.2.trans h2))
    clear h1 h2
    go_wp2_with fail
    go_end0
    exact ⟨rfl, RR.out⟩
  · have d : (n == 0) = false := by simpa using e
    cases busy
    · have hh : has = false := by
        cases has
        · rfl
        · exact absurd (hi.a rfl) (fun q => by cases q)
      subst hh
      have hH : H = 0 := hi.b rfl
      subst hH
      have eT : ctrlC ⟨F, T, L, 0, false, false, den, don, cal⟩ n C = beginE ⟨F, T, L, 0, false, false, den, don, C⟩ := by
        unfold ctrlC beginE
        rw [if_neg e]
        rfl
      rw [eT]
      have G := Lib.hid (fun w => begin_any b ⟨F, T, L, 0, false, false, den, don, C⟩ k x w)
      clear eT hi e
      go_enter Tryz.func280, Tryz.ntmps280
      go_wp2_with fail
      refine calls_letter ?_
      intro W hW
      have R1 := Lib.hid (show EX W b ⟨F, T, L, 0, false, false, den, don, C⟩ k x ∧ Only (fun j => j = b) w W by rw [hW.out]; exact R.out)
      clear hW R c8 f8 c5
      refine (G.out _ R1.out.1).mono ?_
      rintro e w1 ⟨rfl, h1, h2⟩
      have RR := Lib.hid (And.intro h1 (R1.out.2.trans h2))
      clear h1 h2
      go_wp2_with fail
      go_end0
      exact ⟨rfl, RR.out⟩
    · rw [show ctrlC ⟨F, T, L, H, has, true, den, don, cal⟩ n C = ⟨F, T, L, H, has, true, den, don, C⟩ from if_neg e]
      clear hi e
      go_enter Tryz.func280, Tryz.ntmps280
      go_wp2_with fail
      go_end0
      exact ⟨rfl, R.out⟩
theorem setCtrl_any (b : Nat) (s : En) (k : Bool) (x : Value) (v : Int) (w : World) (hv : 0 ≤ v ∧ v < 4294967296) (hi : InvE s) (h : EX w b s k x) :
    Calls Tryz.prog 280 #[.pointer (some ⟨b, 0, none⟩), .int .u32 v] w (Leaves1 b w (writeE s 3 v) k x) := by
  have ec : (v / 256 % 2 * 256 != 0) = decide (v / 256 % 2 = 1) := by
    by_cases e : v / 256 % 2 = 1
    · rw [decide_eq_true e, e]; decide
    · have : v / 256 % 2 = 0 := by omega
      rw [this]; decide
  exact setCtrl_core b _ _ _ _ _ _ _ _ _ k x v _ _ _ w (and_1 hv) (and_256 hv) ec hi h
theorem line_any (b : Nat) (s : En) (k : Bool) (x : Value) (w : World) (h : EX w b s k x) :
    Calls Tryz.prog 292 #[.pointer (some ⟨b, 0, none⟩)] w fun e w' => e = .returned (.bool (lineE s)) ∧ w = w' := by
  have c6 := h.c 6 rfl
  have c7 := h.c 7 rfl
  have c8 := h.c 8 rfl
  unfold lineE
  clear h
  obtain ⟨B, hB⟩ : ∃ B, s.cal = B := ⟨_, rfl⟩
  obtain ⟨D, hD⟩ : ∃ D, s.den = D := ⟨_, rfl⟩
  obtain ⟨N, hN⟩ : ∃ N, s.don = N := ⟨_, rfl⟩
  rw [hB] at c8
  rw [hD] at c6
  rw [hN] at c7
  rw [hB, hD, hN]
  clear hB hD hN
  cases B <;> cases D
  all_goals
    go_enter Tryz.func292, Tryz.ntmps292
    go_wp2_with fail
    go_ret
    exact ⟨rfl, rfl⟩
theorem engine_info : (Tryz.prog.info? 142).isSome = true := by kernel_rfl
theorem eq_own (a : Addr) (w : World) : (binOp .eql 100 (.pointer (some a)) (.pointer (some a))).run Tryz.prog w = .ok (.bool true) w := by
  obtain ⟨j, hj⟩ := Option.isSome_iff_exists.1 engine_info
  exact run_eql_ptr_same w a Tryz.underlying100 hj
theorem eq_nil (a : Addr) (w : World) : (binOp .eql 100 (.pointer none) (.pointer (some a))).run Tryz.prog w = .ok (.bool false) w := by
  have h : ∀ d : Nat, (Op.equalIn (d + 1) 100 (.pointer none) (.pointer (some a))).run Tryz.prog w = .ok false w := fun d => by
    simp [Op.equalIn, run_underlying Tryz.underlying100]
  simp only [binOp]
  simp [Op.equal, Op.maxDepth, h 9999]
abbrev me (b : Nat) : Value := .pointer (some ⟨b, 0, none⟩)
theorem is_yes (b : Nat) (w : World) (h : w.cell? ⟨b, 10, none⟩ = some (.pointer (some ⟨b, 0, none⟩))) :
    Calls Tryz.prog 89 #[.pointer (some ⟨b, 0, none⟩)] w fun e w' => e = .returned (.bool true) ∧ w = w' := by
  have he := eq_own ⟨b, 0, none⟩ w
  go_enter Tryz.func89, Tryz.ntmps89
  go_wp2_with fail
  go_ret
  exact ⟨rfl, rfl⟩
/-- The cells of one that was not answered. -/
def zeroCells : Array Value := (cellsQ zeroE false (.pointer none)).toArray
/-- No engine: none at all, or one that was not answered. -/
def ZeroAt (w : World) (b : Nat) : Prop := EX w b zeroE false (.pointer none)
theorem zero_new (w : World) : ZeroAt (w.alloc (.cells zeroCells 142)) w.heap.size := ⟨Blk.new w _ _, ok_zero⟩
theorem ZeroAt.keep {w w' : World} {b : Nat} (h : ZeroAt w b) (hb : Below w.heap.size w w') : ZeroAt w' b := EX.keep h hb
def Non (w : World) (v : Value) : Prop := v = .pointer none ∨ ∃ b, v = .pointer (some ⟨b, 0, none⟩) ∧ ZeroAt w b
theorem Non.keep {w w' : World} {v : Value} (h : Non w v) (hb : Below w.heap.size w w') : Non w' v := by
  rcases h with rfl | ⟨b, rfl, h⟩
  · exact .inl rfl
  · exact .inr ⟨b, rfl, h.keep hb⟩
theorem is_non (v : Value) (w : World) (h : Non w v) :
    Calls Tryz.prog 89 #[v] w fun e w' => e = .returned (.bool false) ∧ w = w' := by
  rcases h with rfl | ⟨b, rfl, h⟩
  · go_enter Tryz.func89, Tryz.ntmps89
    go_wp2_with fail
    go_ret
    exact ⟨rfl, rfl⟩
  · have c1 := EX.c h 10 rfl
    have he := eq_nil ⟨b, 0, none⟩ w
    clear h
    go_enter Tryz.func89, Tryz.ntmps89
    go_wp2_with fail
    go_ret
    exact ⟨rfl, rfl⟩
theorem engine_yes (b : Nat) (w : World) (h : w.cell? ⟨b, 10, none⟩ = some (.pointer (some ⟨b, 0, none⟩))) :
    Calls Tryz.prog 70 #[.pointer (some ⟨b, 0, none⟩)] w fun e w' => e = .returned (me b) ∧ w = w' := by
  have H := Lib.hid (is_yes b w h)
  clear h
  go_enter Tryz.func70, Tryz.ntmps70
  go_wp2_with fail
  refine H.out.mono ?_
  rintro e w1 ⟨rfl, rfl⟩
  go_wp2_with fail
  go_ret
  exact ⟨rfl, rfl⟩
/-- A fresh one that nobody has: its block is new. -/
theorem engine_non (v : Value) (w : World) (h : Non w v) :
    Calls Tryz.prog 70 #[v] w fun e w' => (∃ b, e = .returned (me b) ∧ ZeroAt w' b ∧ w.heap.size ≤ b) ∧ Below w.heap.size w w' := by
  have H := Lib.hid (is_non v w h)
  clear h
  go_enter Tryz.func70, Tryz.ntmps70
  go_wp2_with fail
  refine H.out.mono ?_
  rintro e w1 ⟨rfl, rfl⟩
  go_wp2_with fail
  go_ret
  exact ⟨⟨_, rfl, zero_new w, Nat.le_refl _⟩, (Below.refl _ _).alloc (Nat.le_refl _) _⟩
theorem keyK : Keyed Tryz.prog 3 := int_keyed Tryz.underlying3
def I64 (x : Int) : Prop := -9223372036854775808 ≤ x ∧ x ≤ 9223372036854775807
theorem key_mk (k : Int) (hk : I64 k) : keyOf Tryz.prog 3 (.int .i64 k) = some (.int .i64 k) := keyOf_int_mk Tryz.underlying3 (WalkArith.wf_i64 ⟨hk.1, hk.2⟩)
def meth (f : Nat) (b : Nat) : Value := .func (.func f) #[.pointer (some ⟨b, 0, none⟩)] #[]
def readL (b : Nat) : List (Int × Value) := [(3, meth 276 b), (2, meth 275 b), (1, meth 274 b), (0, meth 273 b)]
def writeL (b : Nat) : List (Int × Value) := [(4, meth 281 b), (3, meth 280 b), (2, meth 279 b), (1, meth 278 b), (0, meth 277 b)]
theorem reads_any (b : Nat) (w : World) :
    Calls Tryz.prog 271 #[.pointer (some ⟨b, 0, none⟩)] w fun e w' => (∃ g, e = .returned (.map (some g)) ∧ FM Tryz.prog 3 .i64 w' g (readL b)) ∧ Below w.heap.size w w' := by
  have hmm := @run_makeMap Tryz.prog
  have hmf : ∀ w f r, (Instr.makeFunc (.func f) r #[]).run Tryz.prog w = .ok (.func (.func f) r #[]) w := fun w f r => rfl
  go_enter Tryz.func271, Tryz.ntmps271
  go_wp2_with (with_reducible refine at_insert _ _ _ _ rfl ?_)
  refine Lib.hid ?_
  refine list_letter ?_
  intro W hW
  have B0 := Lib.hid (show Below w.heap.size w W by rw [hW.out]; exact (Below.refl w.heap.size w).alloc (Nat.le_refl _) _)
  have H0 := Lib.hid (show FM Tryz.prog 3 .i64 W w.heap.size [] by rw [hW.out]; exact FM.made _ _ _ w)
  clear hW
  obtain ⟨g, hg⟩ : ∃ g, w.heap.size = g := ⟨_, rfl⟩
  rw [hg] at B0 H0
  rw [hg]
  refine wpList_insert_fm _ rfl _ _ _ _ rfl 3 217 .i64 keyK Tryz.underlying219 g _ rfl H0.out (by simp [maxLen]) 0 (meth 273 b) rfl rfl (key_mk 0 ⟨by decide, by decide⟩) ?_
  intro w1 hown hon
  have H1 := Lib.hid hown
  have B1 := Lib.hid (B0.out.trans (hon.below (Nat.le_of_lt H0.out.lt) (fun k e => by have : k = g := e; omega)))
  clear hown hon
  go_wp2_with (with_reducible refine at_insert _ _ _ _ rfl ?_)
  refine Lib.hid ?_
  refine wpList_insert_fm _ rfl _ _ _ _ rfl 3 217 .i64 keyK Tryz.underlying219 g _ rfl H1.out (by simp [maxLen]) 1 (meth 274 b) rfl rfl (key_mk 1 ⟨by decide, by decide⟩) ?_
  intro w2 hown hon
  have H2 := Lib.hid hown
  have B2 := Lib.hid (B1.out.trans (hon.below (Nat.le_of_lt H1.out.lt) (fun k e => by have : k = g := e; omega)))
  clear hown hon
  go_wp2_with (with_reducible refine at_insert _ _ _ _ rfl ?_)
  refine Lib.hid ?_
  refine wpList_insert_fm _ rfl _ _ _ _ rfl 3 217 .i64 keyK Tryz.underlying219 g _ rfl H2.out (by simp [maxLen]) 2 (meth 275 b) rfl rfl (key_mk 2 ⟨by decide, by decide⟩) ?_
  intro w3 hown hon
  have H3 := Lib.hid hown
  have B3 := Lib.hid (B2.out.trans (hon.below (Nat.le_of_lt H2.out.lt) (fun k e => by have : k = g := e; omega)))
  clear hown hon
  go_wp2_with (with_reducible refine at_insert _ _ _ _ rfl ?_)
  refine Lib.hid ?_
  refine wpList_insert_fm _ rfl _ _ _ _ rfl 3 217 .i64 keyK Tryz.underlying219 g _ rfl H3.out (by simp [maxLen]) 3 (meth 276 b) rfl rfl (key_mk 3 ⟨by decide, by decide⟩) ?_
  intro w4 hown hon
  have H4 := Lib.hid hown
  have B4 := Lib.hid (B3.out.trans (hon.below (Nat.le_of_lt H3.out.lt) (fun k e => by have : k = g := e; omega)))
  clear hown hon
  go_wp2_with fail
  go_ret
  exact ⟨⟨g, rfl, H4.out⟩, by rw [hg]; exact B4.out⟩
theorem writes_any (b : Nat) (w : World) :
    Calls Tryz.prog 272 #[.pointer (some ⟨b, 0, none⟩)] w fun e w' => (∃ g, e = .returned (.map (some g)) ∧ FM Tryz.prog 3 .i64 w' g (writeL b)) ∧ Below w.heap.size w w' := by
  have hmm := @run_makeMap Tryz.prog
  have hmf : ∀ w f r, (Instr.makeFunc (.func f) r #[]).run Tryz.prog w = .ok (.func (.func f) r #[]) w := fun w f r => rfl
  go_enter Tryz.func272, Tryz.ntmps272
  go_wp2_with (with_reducible refine at_insert _ _ _ _ rfl ?_)
  refine Lib.hid ?_
  refine list_letter ?_
  intro W hW
  have B0 := Lib.hid (show Below w.heap.size w W by rw [hW.out]; exact (Below.refl w.heap.size w).alloc (Nat.le_refl _) _)
  have H0 := Lib.hid (show FM Tryz.prog 3 .i64 W w.heap.size [] by rw [hW.out]; exact FM.made _ _ _ w)
  clear hW
  obtain ⟨g, hg⟩ : ∃ g, w.heap.size = g := ⟨_, rfl⟩
  rw [hg] at B0 H0
  rw [hg]
  refine wpList_insert_fm _ rfl _ _ _ _ rfl 3 180 .i64 keyK Tryz.underlying222 g _ rfl H0.out (by simp [maxLen]) 0 (meth 277 b) rfl rfl (key_mk 0 ⟨by decide, by decide⟩) ?_
  intro w1 hown hon
  have H1 := Lib.hid hown
  have B1 := Lib.hid (B0.out.trans (hon.below (Nat.le_of_lt H0.out.lt) (fun k e => by have : k = g := e; omega)))
  clear hown hon
  go_wp2_with (with_reducible refine at_insert _ _ _ _ rfl ?_)
  refine Lib.hid ?_
  refine wpList_insert_fm _ rfl _ _ _ _ rfl 3 180 .i64 keyK Tryz.underlying222 g _ rfl H1.out (by simp [maxLen]) 1 (meth 278 b) rfl rfl (key_mk 1 ⟨by decide, by decide⟩) ?_
  intro w2 hown hon
  have H2 := Lib.hid hown
  have B2 := Lib.hid (B1.out.trans (hon.below (Nat.le_of_lt H1.out.lt) (fun k e => by have : k = g := e; omega)))
  clear hown hon
  go_wp2_with (with_reducible refine at_insert _ _ _ _ rfl ?_)
  refine Lib.hid ?_
  refine wpList_insert_fm _ rfl _ _ _ _ rfl 3 180 .i64 keyK Tryz.underlying222 g _ rfl H2.out (by simp [maxLen]) 2 (meth 279 b) rfl rfl (key_mk 2 ⟨by decide, by decide⟩) ?_
  intro w3 hown hon
  have H3 := Lib.hid hown
  have B3 := Lib.hid (B2.out.trans (hon.below (Nat.le_of_lt H2.out.lt) (fun k e => by have : k = g := e; omega)))
  clear hown hon
  go_wp2_with (with_reducible refine at_insert _ _ _ _ rfl ?_)
  refine Lib.hid ?_
  refine wpList_insert_fm _ rfl _ _ _ _ rfl 3 180 .i64 keyK Tryz.underlying222 g _ rfl H3.out (by simp [maxLen]) 3 (meth 280 b) rfl rfl (key_mk 3 ⟨by decide, by decide⟩) ?_
  intro w4 hown hon
  have H4 := Lib.hid hown
  have B4 := Lib.hid (B3.out.trans (hon.below (Nat.le_of_lt H3.out.lt) (fun k e => by have : k = g := e; omega)))
  clear hown hon
  go_wp2_with (with_reducible refine at_insert _ _ _ _ rfl ?_)
  refine Lib.hid ?_
  refine wpList_insert_fm _ rfl _ _ _ _ rfl 3 180 .i64 keyK Tryz.underlying222 g _ rfl H4.out (by simp [maxLen]) 4 (meth 281 b) rfl rfl (key_mk 4 ⟨by decide, by decide⟩) ?_
  intro w5 hown hon
  have H5 := Lib.hid hown
  have B5 := Lib.hid (B4.out.trans (hon.below (Nat.le_of_lt H4.out.lt) (fun k e => by have : k = g := e; omega)))
  clear hown hon
  go_wp2_with fail
  go_ret
  exact ⟨⟨g, rfl, H5.out⟩, by rw [hg]; exact B5.out⟩
end Go.Proofs.YtknhgfofmkpnfaaGreat.Dma
/- Package dma: all that an engine has, told; a state made right; Of, New. -/
namespace Go.Proofs.YtknhgfofmkpnfaaGreat.Dma
open Go.RowKit Go.Maps Go.ChangeShapes Go.WideShapes Go.ChangeAt Fifo Orow Word Fmap
set_option linter.unusedVariables false

abbrev zcells : List Value := [.int .u32 0, .int .u32 0, .int .u32 0, .int .u32 0, .bool false, .bool false, .bool false, .bool false, .bool false]
set_option maxRecDepth 100000 in
set_option maxHeartbeats 2000000 in
theorem told_any (b : Nat) (s : En) (k : Bool) (x : Value) (w : World) (h : EX w b s k x) :
    Calls Tryz.prog 291 #[.pointer (some ⟨b, 0, none⟩)] w fun e w' => e = .returned (stE s) ∧ Below w.heap.size w w' := by
  have H := Lib.hid h
  have hlt := h.lt
  clear h
  go_enter Tryz.func291, Tryz.ntmps291
  go_wp2_with fail
  refine code_letter ?_
  intro W hW
  have B := Lib.hid (show Below w.heap.size w W by rw [hW.out]; exact (Below.refl _ _).alloc (Nat.le_refl _) _)
  have S := Lib.hid (H.out.keep B.out)
  have Z := Lib.hid (show Blk W w.heap.size 137 zcells by rw [hW.out]; exact Blk.new w _ zcells)
  clear hW
  obtain ⟨g, hg⟩ : ∃ g, w.heap.size = g := ⟨_, rfl⟩
  rw [hg] at B Z hlt
  rw [hg]
  have c0 : ∀ w', EX w' b s k x → w'.cell? ⟨b, 0, none⟩ = some (.int .u32 s.F) := fun w' h => h.c 0 rfl
  have c1 : ∀ w', EX w' b s k x → w'.cell? ⟨b, 1, none⟩ = some (.int .u32 s.T) := fun w' h => h.c 1 rfl
  have c2 : ∀ w', EX w' b s k x → w'.cell? ⟨b, 2, none⟩ = some (.int .u32 s.L) := fun w' h => h.c 2 rfl
  have c3 : ∀ w', EX w' b s k x → w'.cell? ⟨b, 3, none⟩ = some (.int .u32 s.H) := fun w' h => h.c 3 rfl
  have c4 : ∀ w', EX w' b s k x → w'.cell? ⟨b, 4, none⟩ = some (.bool s.has) := fun w' h => h.c 4 rfl
  have c5 : ∀ w', EX w' b s k x → w'.cell? ⟨b, 5, none⟩ = some (.bool s.busy) := fun w' h => h.c 5 rfl
  have c6 : ∀ w', EX w' b s k x → w'.cell? ⟨b, 6, none⟩ = some (.bool s.den) := fun w' h => h.c 6 rfl
  have c7 : ∀ w', EX w' b s k x → w'.cell? ⟨b, 7, none⟩ = some (.bool s.don) := fun w' h => h.c 7 rfl
  have c8 : ∀ w', EX w' b s k x → w'.cell? ⟨b, 8, none⟩ = some (.bool s.cal) := fun w' h => h.c 8 rfl
  have ZZ := Z.out
  have SS : EX W.drew b s k x := S.out.keep (Below.refl _ _).drew
  clear H
  refine wp_region_held_drew (S := fun w' => EX w' b s k x) (by kernel_rfl) SS (fun hHeld => ?_)
  refine wpAnyH_take (i := 0) (v := ?_) rfl (by kernel_rfl) (by kernel_rfl) (by kernel_rfl) (fun _ _ _ h => h) (Or.inl ⟨by rfl, ?_⟩) (by assumption) ?_
  rotate_left
  · (intro w hSw; (try dsimp only at hSw); go_simp; try (with_reducible rfl))
  try simp only [Act.put, List.getElem_toArray, List.getElem_cons_zero, List.setIfInBounds_toArray, List.set_cons_succ, List.set_cons_zero]
  refine wpAnyH_take (i := 1) (v := ?_) rfl (by kernel_rfl) (by kernel_rfl) (by kernel_rfl) (fun _ _ _ h => h) (Or.inl ⟨by rfl, ?_⟩) (by assumption) ?_
  rotate_left
  · (intro w hSw; (try dsimp only at hSw); go_simp; try (with_reducible rfl))
  try simp only [Act.put, List.getElem_toArray, List.getElem_cons_succ, List.getElem_cons_zero, List.setIfInBounds_toArray, List.set_cons_succ, List.set_cons_zero]
  refine wpAnyH_take (i := 2) (v := ?_) rfl (by kernel_rfl) (by kernel_rfl) (by kernel_rfl) (fun _ _ _ h => h) (Or.inl ⟨by rfl, ?_⟩) (by assumption) ?_
  rotate_left
  · (intro w hSw; (try dsimp only at hSw); go_simp; try (with_reducible rfl))
  try simp only [Act.put, List.getElem_toArray, List.getElem_cons_succ, List.getElem_cons_zero, List.setIfInBounds_toArray, List.set_cons_succ, List.set_cons_zero]
  refine wpAnyH_take (i := 3) (v := ?_) rfl (by kernel_rfl) (by kernel_rfl) (by kernel_rfl) (fun _ _ _ h => h) (Or.inl ⟨by rfl, ?_⟩) (by assumption) ?_
  rotate_left
  · (intro w hSw; (try dsimp only at hSw); go_simp; try (with_reducible rfl))
  try simp only [Act.put, List.getElem_toArray, List.getElem_cons_succ, List.getElem_cons_zero, List.setIfInBounds_toArray, List.set_cons_succ, List.set_cons_zero]
  refine wpAnyH_take (i := 4) (v := ?_) rfl (by kernel_rfl) (by kernel_rfl) (by kernel_rfl) (fun _ _ _ h => h) (Or.inl ⟨by rfl, ?_⟩) (by assumption) ?_
  rotate_left
  · (intro w hSw; (try dsimp only at hSw); go_simp; try (with_reducible rfl))
  try simp only [Act.put, List.getElem_toArray, List.getElem_cons_succ, List.getElem_cons_zero, List.setIfInBounds_toArray, List.set_cons_succ, List.set_cons_zero]
  refine wpAnyH_take (i := 5) (v := ?_) rfl (by kernel_rfl) (by kernel_rfl) (by kernel_rfl) (fun _ _ _ h => h) (Or.inl ⟨by rfl, ?_⟩) (by assumption) ?_
  rotate_left
  · (intro w hSw; (try dsimp only at hSw); go_simp; try (with_reducible rfl))
  try simp only [Act.put, List.getElem_toArray, List.getElem_cons_succ, List.getElem_cons_zero, List.setIfInBounds_toArray, List.set_cons_succ, List.set_cons_zero]
  refine wpAnyH_take (i := 6) (v := ?_) rfl (by kernel_rfl) (by kernel_rfl) (by kernel_rfl) (fun _ _ _ h => h) (Or.inl ⟨by rfl, ?_⟩) (by assumption) ?_
  rotate_left
  · (intro w hSw; (try dsimp only at hSw); go_simp; try (with_reducible rfl))
  try simp only [Act.put, List.getElem_toArray, List.getElem_cons_succ, List.getElem_cons_zero, List.setIfInBounds_toArray, List.set_cons_succ, List.set_cons_zero]
  refine wpAnyH_take (i := 7) (v := ?_) rfl (by kernel_rfl) (by kernel_rfl) (by kernel_rfl) (fun _ _ _ h => h) (Or.inl ⟨by rfl, ?_⟩) (by assumption) ?_
  rotate_left
  · (intro w hSw; (try dsimp only at hSw); go_simp; try (with_reducible rfl))
  try simp only [Act.put, List.getElem_toArray, List.getElem_cons_succ, List.getElem_cons_zero, List.setIfInBounds_toArray, List.set_cons_succ, List.set_cons_zero]
  refine wpAnyH_take (i := 8) (v := ?_) rfl (by kernel_rfl) (by kernel_rfl) (by kernel_rfl) (fun _ _ _ h => h) (Or.inl ⟨by rfl, ?_⟩) (by assumption) ?_
  rotate_left
  · (intro w hSw; (try dsimp only at hSw); go_simp; try (with_reducible rfl))
  try simp only [Act.put, List.getElem_toArray, List.getElem_cons_succ, List.getElem_cons_zero, List.setIfInBounds_toArray, List.set_cons_succ, List.set_cons_zero]
  refine wpAnyH_take (i := 9) (v := ?_) rfl (by kernel_rfl) (by kernel_rfl) (by kernel_rfl) (fun _ _ _ h => h) (Or.inl ⟨by rfl, ?_⟩) (by assumption) ?_
  rotate_left
  · (intro w hSw; (try dsimp only at hSw); go_simp; try (with_reducible rfl))
  try simp only [Act.put, List.getElem_toArray, List.getElem_cons_succ, List.getElem_cons_zero, List.setIfInBounds_toArray, List.set_cons_succ, List.set_cons_zero]
  refine wpAnyH_take (i := 10) (v := ?_) rfl (by kernel_rfl) (by kernel_rfl) (by kernel_rfl) (fun _ _ _ h => h) (Or.inl ⟨by rfl, ?_⟩) (by assumption) ?_
  rotate_left
  · (intro w hSw; (try dsimp only at hSw); go_simp; try (with_reducible rfl))
  try simp only [Act.put, List.getElem_toArray, List.getElem_cons_succ, List.getElem_cons_zero, List.setIfInBounds_toArray, List.set_cons_succ, List.set_cons_zero]
  refine wpAnyH_take (i := 11) (v := ?_) rfl (by kernel_rfl) (by kernel_rfl) (by kernel_rfl) (fun _ _ _ h => h) (Or.inl ⟨by rfl, ?_⟩) (by assumption) ?_
  rotate_left
  · (intro w hSw; (try dsimp only at hSw); go_simp; try (with_reducible rfl))
  try simp only [Act.put, List.getElem_toArray, List.getElem_cons_succ, List.getElem_cons_zero, List.setIfInBounds_toArray, List.set_cons_succ, List.set_cons_zero]
  refine wpAnyH_take (i := 12) (v := ?_) rfl (by kernel_rfl) (by kernel_rfl) (by kernel_rfl) (fun _ _ _ h => h) (Or.inl ⟨by rfl, ?_⟩) (by assumption) ?_
  rotate_left
  · (intro w hSw; (try dsimp only at hSw); go_simp; try (with_reducible rfl))
  try simp only [Act.put, List.getElem_toArray, List.getElem_cons_succ, List.getElem_cons_zero, List.setIfInBounds_toArray, List.set_cons_succ, List.set_cons_zero]
  refine wpAnyH_take (i := 13) (v := ?_) rfl (by kernel_rfl) (by kernel_rfl) (by kernel_rfl) (fun _ _ _ h => h) (Or.inl ⟨by rfl, ?_⟩) (by assumption) ?_
  rotate_left
  · (intro w hSw; (try dsimp only at hSw); go_simp; try (with_reducible rfl))
  try simp only [Act.put, List.getElem_toArray, List.getElem_cons_succ, List.getElem_cons_zero, List.setIfInBounds_toArray, List.set_cons_succ, List.set_cons_zero]
  refine wpAnyH_take (i := 14) (v := ?_) rfl (by kernel_rfl) (by kernel_rfl) (by kernel_rfl) (fun _ _ _ h => h) (Or.inl ⟨by rfl, ?_⟩) (by assumption) ?_
  rotate_left
  · (intro w hSw; (try dsimp only at hSw); go_simp; try (with_reducible rfl))
  try simp only [Act.put, List.getElem_toArray, List.getElem_cons_succ, List.getElem_cons_zero, List.setIfInBounds_toArray, List.set_cons_succ, List.set_cons_zero]
  refine wpAnyH_take (i := 15) (v := ?_) rfl (by kernel_rfl) (by kernel_rfl) (by kernel_rfl) (fun _ _ _ h => h) (Or.inl ⟨by rfl, ?_⟩) (by assumption) ?_
  rotate_left
  · (intro w hSw; (try dsimp only at hSw); go_simp; try (with_reducible rfl))
  try simp only [Act.put, List.getElem_toArray, List.getElem_cons_succ, List.getElem_cons_zero, List.setIfInBounds_toArray, List.set_cons_succ, List.set_cons_zero]
  refine wpAnyH_take (i := 16) (v := ?_) rfl (by kernel_rfl) (by kernel_rfl) (by kernel_rfl) (fun _ _ _ h => h) (Or.inl ⟨by rfl, ?_⟩) (by assumption) ?_
  rotate_left
  · (intro w hSw; (try dsimp only at hSw); go_simp; try (with_reducible rfl))
  try simp only [Act.put, List.getElem_toArray, List.getElem_cons_succ, List.getElem_cons_zero, List.setIfInBounds_toArray, List.set_cons_succ, List.set_cons_zero]
  refine wpAnyH_take (i := 17) (v := ?_) rfl (by kernel_rfl) (by kernel_rfl) (by kernel_rfl) (fun _ _ _ h => h) (Or.inl ⟨by rfl, ?_⟩) (by assumption) ?_
  rotate_left
  · (intro w hSw; (try dsimp only at hSw); go_simp; try (with_reducible rfl))
  try simp only [Act.put, List.getElem_toArray, List.getElem_cons_succ, List.getElem_cons_zero, List.setIfInBounds_toArray, List.set_cons_succ, List.set_cons_zero]
  refine wpAnyH_take (i := 18) (v := ?_) rfl (by kernel_rfl) (by kernel_rfl) (by kernel_rfl) (fun _ _ _ h => h) (Or.inl ⟨by rfl, ?_⟩) (by assumption) ?_
  rotate_left
  · (intro w hSw; (try dsimp only at hSw); go_simp; try (with_reducible rfl))
  try simp only [Act.put, List.getElem_toArray, List.getElem_cons_succ, List.getElem_cons_zero, List.setIfInBounds_toArray, List.set_cons_succ, List.set_cons_zero]
  refine wpAnyH_take (i := 19) (v := ?_) rfl (by kernel_rfl) (by kernel_rfl) (by kernel_rfl) (fun _ _ _ h => h) (Or.inl ⟨by rfl, ?_⟩) (by assumption) ?_
  rotate_left
  · (intro w hSw; (try dsimp only at hSw); go_simp; try (with_reducible rfl))
  try simp only [Act.put, List.getElem_toArray, List.getElem_cons_succ, List.getElem_cons_zero, List.setIfInBounds_toArray, List.set_cons_succ, List.set_cons_zero]
  refine wpAnyH_take (i := 20) (v := ?_) rfl (by kernel_rfl) (by kernel_rfl) (by kernel_rfl) (fun _ _ _ h => h) (Or.inl ⟨by rfl, ?_⟩) (by assumption) ?_
  rotate_left
  · (intro w hSw; (try dsimp only at hSw); go_simp; try (with_reducible rfl))
  try simp only [Act.put, List.getElem_toArray, List.getElem_cons_succ, List.getElem_cons_zero, List.setIfInBounds_toArray, List.set_cons_succ, List.set_cons_zero]
  refine wpAnyH_take (i := 21) (v := ?_) rfl (by kernel_rfl) (by kernel_rfl) (by kernel_rfl) (fun _ _ _ h => h) (Or.inl ⟨by rfl, ?_⟩) (by assumption) ?_
  rotate_left
  · (intro w hSw; (try dsimp only at hSw); go_simp; try (with_reducible rfl))
  try simp only [Act.put, List.getElem_toArray, List.getElem_cons_succ, List.getElem_cons_zero, List.setIfInBounds_toArray, List.set_cons_succ, List.set_cons_zero]
  refine wpAnyH_take (i := 22) (v := ?_) rfl (by kernel_rfl) (by kernel_rfl) (by kernel_rfl) (fun _ _ _ h => h) (Or.inl ⟨by rfl, ?_⟩) (by assumption) ?_
  rotate_left
  · (intro w hSw; (try dsimp only at hSw); go_simp; try (with_reducible rfl))
  try simp only [Act.put, List.getElem_toArray, List.getElem_cons_succ, List.getElem_cons_zero, List.setIfInBounds_toArray, List.set_cons_succ, List.set_cons_zero]
  refine wpAnyH_take (i := 23) (v := ?_) rfl (by kernel_rfl) (by kernel_rfl) (by kernel_rfl) (fun _ _ _ h => h) (Or.inl ⟨by rfl, ?_⟩) (by assumption) ?_
  rotate_left
  · (intro w hSw; (try dsimp only at hSw); go_simp; try (with_reducible rfl))
  try simp only [Act.put, List.getElem_toArray, List.getElem_cons_succ, List.getElem_cons_zero, List.setIfInBounds_toArray, List.set_cons_succ, List.set_cons_zero]
  refine wpAnyH_take (i := 24) (v := ?_) rfl (by kernel_rfl) (by kernel_rfl) (by kernel_rfl) (fun _ _ _ h => h) (Or.inl ⟨by rfl, ?_⟩) (by assumption) ?_
  rotate_left
  · (intro w hSw; (try dsimp only at hSw); go_simp; try (with_reducible rfl))
  try simp only [Act.put, List.getElem_toArray, List.getElem_cons_succ, List.getElem_cons_zero, List.setIfInBounds_toArray, List.set_cons_succ, List.set_cons_zero]
  refine wpAnyH_take (i := 25) (v := ?_) rfl (by kernel_rfl) (by kernel_rfl) (by kernel_rfl) (fun _ _ _ h => h) (Or.inl ⟨by rfl, ?_⟩) (by assumption) ?_
  rotate_left
  · (intro w hSw; (try dsimp only at hSw); go_simp; try (with_reducible rfl))
  try simp only [Act.put, List.getElem_toArray, List.getElem_cons_succ, List.getElem_cons_zero, List.setIfInBounds_toArray, List.set_cons_succ, List.set_cons_zero]
  refine wpAnyH_take (i := 26) (v := ?_) rfl (by kernel_rfl) (by kernel_rfl) (by kernel_rfl) (fun _ _ _ h => h) (Or.inl ⟨by rfl, ?_⟩) (by assumption) ?_
  rotate_left
  · (intro w hSw; (try dsimp only at hSw); go_simp; try (with_reducible rfl))
  try simp only [Act.put, List.getElem_toArray, List.getElem_cons_succ, List.getElem_cons_zero, List.setIfInBounds_toArray, List.set_cons_succ, List.set_cons_zero]
  refine wpAnyH_take (i := 27) (v := ?_) rfl (by kernel_rfl) (by kernel_rfl) (by kernel_rfl) (fun _ _ _ h => h) (Or.inl ⟨by rfl, ?_⟩) (by assumption) ?_
  rotate_left
  · (intro w hSw; (try dsimp only at hSw); go_simp; try (with_reducible rfl))
  try simp only [Act.put, List.getElem_toArray, List.getElem_cons_succ, List.getElem_cons_zero, List.setIfInBounds_toArray, List.set_cons_succ, List.set_cons_zero]
  refine wpAnyH_take (i := 28) (v := ?_) rfl (by kernel_rfl) (by kernel_rfl) (by kernel_rfl) (fun _ _ _ h => h) (Or.inl ⟨by rfl, ?_⟩) (by assumption) ?_
  rotate_left
  · (intro w hSw; (try dsimp only at hSw); go_simp; try (with_reducible rfl))
  try simp only [Act.put, List.getElem_toArray, List.getElem_cons_succ, List.getElem_cons_zero, List.setIfInBounds_toArray, List.set_cons_succ, List.set_cons_zero]
  refine wpAnyH_take (i := 29) (v := ?_) rfl (by kernel_rfl) (by kernel_rfl) (by kernel_rfl) (fun _ _ _ h => h) (Or.inl ⟨by rfl, ?_⟩) (by assumption) ?_
  rotate_left
  · (intro w hSw; (try dsimp only at hSw); go_simp; try (with_reducible rfl))
  try simp only [Act.put, List.getElem_toArray, List.getElem_cons_succ, List.getElem_cons_zero, List.setIfInBounds_toArray, List.set_cons_succ, List.set_cons_zero]
  refine wpAnyH_take (i := 30) (v := ?_) rfl (by kernel_rfl) (by kernel_rfl) (by kernel_rfl) (fun _ _ _ h => h) (Or.inl ⟨by rfl, ?_⟩) (by assumption) ?_
  rotate_left
  · (intro w hSw; (try dsimp only at hSw); go_simp; try (with_reducible rfl))
  try simp only [Act.put, List.getElem_toArray, List.getElem_cons_succ, List.getElem_cons_zero, List.setIfInBounds_toArray, List.set_cons_succ, List.set_cons_zero]
  refine wpAnyH_take (i := 31) (v := ?_) rfl (by kernel_rfl) (by kernel_rfl) (by kernel_rfl) (fun _ _ _ h => h) (Or.inl ⟨by rfl, ?_⟩) (by assumption) ?_
  rotate_left
  · (intro w hSw; (try dsimp only at hSw); go_simp; try (with_reducible rfl))
  try simp only [Act.put, List.getElem_toArray, List.getElem_cons_succ, List.getElem_cons_zero, List.setIfInBounds_toArray, List.set_cons_succ, List.set_cons_zero]
  refine wpAnyH_take (i := 32) (v := ?_) rfl (by kernel_rfl) (by kernel_rfl) (by kernel_rfl) (fun _ _ _ h => h) (Or.inl ⟨by rfl, ?_⟩) (by assumption) ?_
  rotate_left
  · (intro w hSw; (try dsimp only at hSw); go_simp; try (with_reducible rfl))
  try simp only [Act.put, List.getElem_toArray, List.getElem_cons_succ, List.getElem_cons_zero, List.setIfInBounds_toArray, List.set_cons_succ, List.set_cons_zero]
  refine wpAnyH_take (i := 33) (v := ?_) rfl (by kernel_rfl) (by kernel_rfl) (by kernel_rfl) (fun _ _ _ h => h) (Or.inl ⟨by rfl, ?_⟩) (by assumption) ?_
  rotate_left
  · (intro w hSw; (try dsimp only at hSw); go_simp; try (with_reducible rfl))
  try simp only [Act.put, List.getElem_toArray, List.getElem_cons_succ, List.getElem_cons_zero, List.setIfInBounds_toArray, List.set_cons_succ, List.set_cons_zero]
  refine wpAnyH_take (i := 34) (v := ?_) rfl (by kernel_rfl) (by kernel_rfl) (by kernel_rfl) (fun _ _ _ h => h) (Or.inl ⟨by rfl, ?_⟩) (by assumption) ?_
  rotate_left
  · (intro w hSw; (try dsimp only at hSw); go_simp; try (with_reducible rfl))
  try simp only [Act.put, List.getElem_toArray, List.getElem_cons_succ, List.getElem_cons_zero, List.setIfInBounds_toArray, List.set_cons_succ, List.set_cons_zero]
  refine wpAnyH_take (i := 35) (v := ?_) rfl (by kernel_rfl) (by kernel_rfl) (by kernel_rfl) (fun _ _ _ h => h) (Or.inl ⟨by rfl, ?_⟩) (by assumption) ?_
  rotate_left
  · (intro w hSw; (try dsimp only at hSw); go_simp; try (with_reducible rfl))
  try simp only [Act.put, List.getElem_toArray, List.getElem_cons_succ, List.getElem_cons_zero, List.setIfInBounds_toArray, List.set_cons_succ, List.set_cons_zero]
  refine wpAnyH_take (i := 36) (v := ?_) rfl (by kernel_rfl) (by kernel_rfl) (by kernel_rfl) (fun _ _ _ h => h) (Or.inl ⟨by rfl, ?_⟩) (by assumption) ?_
  rotate_left
  · (intro w hSw; (try dsimp only at hSw); go_simp; try (with_reducible rfl))
  try simp only [Act.put, List.getElem_toArray, List.getElem_cons_succ, List.getElem_cons_zero, List.setIfInBounds_toArray, List.set_cons_succ, List.set_cons_zero]
  refine wpAnyH_ready (rs := [37]) (by kernel_rfl) (by simp) ?_
  refine AllReadyH.cons rfl (fun K1 hK => ?_) AllReadyH.nil
  rw [if_pos (by rfl)]
  refine oper_store _ _ _ rfl g 0 (cellsE s) rfl rfl 137 _ ZZ (by kernel_rfl) (by simp) (by simp [Value.oneCell']) ?_
  intro Y hY hoY
  have hon : EX Y b s k x := EX.only (w := W.drew) (S := fun j => j = g) SS hoY (by show ¬ b = g; omega)
  have R := Lib.hid (show Blk Y g 137 (cellsE s) from hY)
  have O := Lib.hid (show Below g w Y from B.out.trans ((Only.below (Only.far (Only.of_below (Below.refl W.heap.size W).drew) hoY (fun i _ e => e)) (Nat.le_of_lt Z.out.lt) (fun k e => by have : k = g := e; omega))))
  refine hK.out _ _ hon (fun hHeld => ?_)
  clear hK hY hoY hon
  simp only [Act.put, List.getElem_toArray, List.getElem_cons_succ, List.getElem_cons_zero]
  refine wpAnyH_done (by kernel_rfl) ?_ _
  have r0 := R.out.at 0 rfl
  have r1 := R.out.at 1 rfl
  have r2 := R.out.at 2 rfl
  have r3 := R.out.at 3 rfl
  have r4 := R.out.at 4 rfl
  have r5 := R.out.at 5 rfl
  have r6 := R.out.at 6 rfl
  have r7 := R.out.at 7 rfl
  have r8 := R.out.at 8 rfl
  go_wp2_with fail
  refine bodyPost_ret (v := stE s) ?_ rfl ⟨rfl, by rw [hg]; exact O.out⟩
  simp [results, Tryz.results291, go_sem, r0, r1, r2, r3, r4, r5, r6, r7, r8]
set_option maxHeartbeats 1000000 in
theorem stateOf_a (F T L H : Int) (has den don cal : Bool) (w : World) :
    Calls Tryz.prog 87 #[stE ⟨F, T, L, H, has, false, den, don, cal⟩] w fun e w' => e = .returned (stE ⟨F, T, L, 0, false, false, den, don, cal⟩) ∧ Below w.heap.size w w' := by
  go_enter Tryz.func87, Tryz.ntmps87
  go_wp2_with (with_reducible refine at_store 140 _ _ rfl ?_)
  refine Lib.hid ?_
  refine list_letter ?_
  intro W hW
  have B := Lib.hid (show Below w.heap.size w W by rw [hW.out]; exact (((Below.refl _ _).alloc (Nat.le_refl _) _).alloc (by simp) _).alloc (by simp; omega) _)
  have S := Lib.hid (show Blk W w.heap.size 137 (cellsE ⟨F, T, L, H, has, false, den, don, cal⟩) by rw [hW.out]; exact ((Blk.new w _ _).alloc _).alloc _)
  have Z : ∀ X : World, Blk (X.alloc (.cells #[.int .u32 0, .int .u32 0, .int .u32 0, .int .u32 0, .bool false, .bool false, .bool false, .bool false, .bool false] 140)) X.heap.size 140 zcells := fun X => Blk.new X _ zcells
  have Z1 := Lib.hid (show Blk W (w.heap.size + 1) 140 zcells by
    rw [hW.out]
    have e := (Z (w.alloc (.cells (cellsE ⟨F, T, L, H, has, false, den, don, cal⟩).toArray 137))).alloc (.cells #[.int .u32 0, .int .u32 0, .int .u32 0, .int .u32 0, .bool false, .bool false, .bool false, .bool false, .bool false] 140)
    simpa using e)
  have Z2 := Lib.hid (show Blk W (w.heap.size + 2) 140 zcells by
    rw [hW.out]
    have e := Z ((w.alloc (.cells (cellsE ⟨F, T, L, H, has, false, den, don, cal⟩).toArray 137)).alloc (.cells #[.int .u32 0, .int .u32 0, .int .u32 0, .int .u32 0, .bool false, .bool false, .bool false, .bool false, .bool false] 140))
    simpa using e)
  clear hW Z
  obtain ⟨g, hg⟩ : ∃ g, w.heap.size = g := ⟨_, rfl⟩
  rw [hg] at B S Z1 Z2
  rw [hg]
  refine store_all rfl _ _ _ rfl (g + 2) [.int .u32 F, .int .u32 T, .int .u32 L, .int .u32 0, .bool false, .bool false, .bool den, .bool don, .bool cal] rfl rfl 140 _ Z2.out (by kernel_rfl) rfl (by simp [Value.oneCell']) ?_
  intro Y hY hoY
  have BY := Lib.hid (show Below g w Y from B.out.trans (hoY.below (Nat.le_trans (Nat.le_add_right g 2) (Nat.le_of_lt Z2.out.lt)) (fun k e => by have : k = g + 2 := e; omega)))
  have SY := Lib.hid (show Blk Y g 137 (cellsE ⟨F, T, L, H, has, false, den, don, cal⟩) from S.out.only hoY (by show ¬ g = g + 2; omega))
  have RY := Lib.hid (show Blk Y (g + 1) 140 zcells from Z1.out.only hoY (by show ¬ g + 1 = g + 2; omega))
  have NY := Lib.hid hY
  clear hY hoY B S Z1 Z2
  have s2 := SY.out.at 2 rfl
  have s3 := SY.out.at 3 rfl
  have s4 := SY.out.at 4 rfl
  have s5 := SY.out.at 5 rfl
  have n0 := NY.out.at 0 rfl
  have n1 := NY.out.at 1 rfl
  have n2 := NY.out.at 2 rfl
  have n3 := NY.out.at 3 rfl
  have n4 := NY.out.at 4 rfl
  have n5 := NY.out.at 5 rfl
  have n6 := NY.out.at 6 rfl
  have n7 := NY.out.at 7 rfl
  have n8 := NY.out.at 8 rfl
  have q3 := NY.out.frozen 3
  have q4 := NY.out.frozen 4
  have q5 := NY.out.frozen 5
  go_wp2_with (with_reducible refine at_store 140 _ _ rfl ?_)
  refine Lib.hid ?_
  refine store_all rfl _ _ _ rfl (g + 1) (cellsE ⟨F, T, L, 0, false, false, den, don, cal⟩) rfl rfl 140 _ (RY.out.other (by show ¬ g + 1 = g + 2; omega) _) (by kernel_rfl) rfl (by simp [Value.oneCell']) ?_
  intro X hX hoX
  have BX := Lib.hid (show Below g w X from (BY.out.setCell (by show g ≤ g + 2; omega) _).trans (hoX.below (Nat.le_trans (Nat.le_add_right g 1) (Nat.le_of_lt (RY.out.other (by show ¬ g + 1 = g + 2; omega) _).lt)) (fun k e => by have : k = g + 1 := e; omega)))
  have RX := Lib.hid hX
  clear hX hoX
  have r0 := RX.out.at 0 rfl
  have r1 := RX.out.at 1 rfl
  have r2 := RX.out.at 2 rfl
  have r3 := RX.out.at 3 rfl
  have r4 := RX.out.at 4 rfl
  have r5 := RX.out.at 5 rfl
  have r6 := RX.out.at 6 rfl
  have r7 := RX.out.at 7 rfl
  have r8 := RX.out.at 8 rfl
  go_wp2_with fail
  refine bodyPost_ret (v := stE ⟨F, T, L, 0, false, false, den, don, cal⟩) ?_ rfl ⟨rfl, BX.out⟩
  simp [results, Tryz.results87, go_sem, r0, r1, r2, r3, r4, r5, r6, r7, r8]
set_option maxHeartbeats 1000000 in
theorem stateOf_b (F T L H : Int) (has den don cal : Bool) (w : World) (d : decide (0 < L) = false) :
    Calls Tryz.prog 87 #[stE ⟨F, T, L, H, has, true, den, don, cal⟩] w fun e w' => e = .returned (stE ⟨F, T, L, 0, false, false, den, don, cal⟩) ∧ Below w.heap.size w w' := by
  go_enter Tryz.func87, Tryz.ntmps87
  go_wp2_with (with_reducible refine at_store 140 _ _ rfl ?_)
  refine Lib.hid ?_
  refine list_letter ?_
  intro W hW
  have B := Lib.hid (show Below w.heap.size w W by rw [hW.out]; exact (((Below.refl _ _).alloc (Nat.le_refl _) _).alloc (by simp) _).alloc (by simp; omega) _)
  have S := Lib.hid (show Blk W w.heap.size 137 (cellsE ⟨F, T, L, H, has, true, den, don, cal⟩) by rw [hW.out]; exact ((Blk.new w _ _).alloc _).alloc _)
  have Z : ∀ X : World, Blk (X.alloc (.cells #[.int .u32 0, .int .u32 0, .int .u32 0, .int .u32 0, .bool false, .bool false, .bool false, .bool false, .bool false] 140)) X.heap.size 140 zcells := fun X => Blk.new X _ zcells
  have Z1 := Lib.hid (show Blk W (w.heap.size + 1) 140 zcells by
    rw [hW.out]
    have e := (Z (w.alloc (.cells (cellsE ⟨F, T, L, H, has, true, den, don, cal⟩).toArray 137))).alloc (.cells #[.int .u32 0, .int .u32 0, .int .u32 0, .int .u32 0, .bool false, .bool false, .bool false, .bool false, .bool false] 140)
    simpa using e)
  have Z2 := Lib.hid (show Blk W (w.heap.size + 2) 140 zcells by
    rw [hW.out]
    have e := Z ((w.alloc (.cells (cellsE ⟨F, T, L, H, has, true, den, don, cal⟩).toArray 137)).alloc (.cells #[.int .u32 0, .int .u32 0, .int .u32 0, .int .u32 0, .bool false, .bool false, .bool false, .bool false, .bool false] 140))
    simpa using e)
  clear hW Z
  obtain ⟨g, hg⟩ : ∃ g, w.heap.size = g := ⟨_, rfl⟩
  rw [hg] at B S Z1 Z2
  rw [hg]
  refine store_all rfl _ _ _ rfl (g + 2) [.int .u32 F, .int .u32 T, .int .u32 L, .int .u32 0, .bool false, .bool false, .bool den, .bool don, .bool cal] rfl rfl 140 _ Z2.out (by kernel_rfl) rfl (by simp [Value.oneCell']) ?_
  intro Y hY hoY
  have BY := Lib.hid (show Below g w Y from B.out.trans (hoY.below (Nat.le_trans (Nat.le_add_right g 2) (Nat.le_of_lt Z2.out.lt)) (fun k e => by have : k = g + 2 := e; omega)))
  have SY := Lib.hid (show Blk Y g 137 (cellsE ⟨F, T, L, H, has, true, den, don, cal⟩) from S.out.only hoY (by show ¬ g = g + 2; omega))
  have RY := Lib.hid (show Blk Y (g + 1) 140 zcells from Z1.out.only hoY (by show ¬ g + 1 = g + 2; omega))
  have NY := Lib.hid hY
  clear hY hoY B S Z1 Z2
  have s2 := SY.out.at 2 rfl
  have s3 := SY.out.at 3 rfl
  have s4 := SY.out.at 4 rfl
  have s5 := SY.out.at 5 rfl
  have n0 := NY.out.at 0 rfl
  have n1 := NY.out.at 1 rfl
  have n2 := NY.out.at 2 rfl
  have n3 := NY.out.at 3 rfl
  have n4 := NY.out.at 4 rfl
  have n5 := NY.out.at 5 rfl
  have n6 := NY.out.at 6 rfl
  have n7 := NY.out.at 7 rfl
  have n8 := NY.out.at 8 rfl
  have q3 := NY.out.frozen 3
  have q4 := NY.out.frozen 4
  have q5 := NY.out.frozen 5
  go_wp2_with (with_reducible refine at_store 140 _ _ rfl ?_)
  refine Lib.hid ?_
  refine store_all rfl _ _ _ rfl (g + 1) (cellsE ⟨F, T, L, 0, false, false, den, don, cal⟩) rfl rfl 140 _ (RY.out.other (by show ¬ g + 1 = g + 2; omega) _) (by kernel_rfl) rfl (by simp [Value.oneCell']) ?_
  intro X hX hoX
  have BX := Lib.hid (show Below g w X from (BY.out.setCell (by show g ≤ g + 2; omega) _).trans (hoX.below (Nat.le_trans (Nat.le_add_right g 1) (Nat.le_of_lt (RY.out.other (by show ¬ g + 1 = g + 2; omega) _).lt)) (fun k e => by have : k = g + 1 := e; omega)))
  have RX := Lib.hid hX
  clear hX hoX
  have r0 := RX.out.at 0 rfl
  have r1 := RX.out.at 1 rfl
  have r2 := RX.out.at 2 rfl
  have r3 := RX.out.at 3 rfl
  have r4 := RX.out.at 4 rfl
  have r5 := RX.out.at 5 rfl
  have r6 := RX.out.at 6 rfl
  have r7 := RX.out.at 7 rfl
  have r8 := RX.out.at 8 rfl
  go_wp2_with fail
  refine bodyPost_ret (v := stE ⟨F, T, L, 0, false, false, den, don, cal⟩) ?_ rfl ⟨rfl, BX.out⟩
  simp [results, Tryz.results87, go_sem, r0, r1, r2, r3, r4, r5, r6, r7, r8]
set_option maxHeartbeats 1000000 in
theorem stateOf_c (F T L H : Int) (den don cal : Bool) (w : World) (d : decide (0 < L) = true) :
    Calls Tryz.prog 87 #[stE ⟨F, T, L, H, false, true, den, don, cal⟩] w fun e w' => e = .returned (stE ⟨F, T, L, 0, false, true, den, don, cal⟩) ∧ Below w.heap.size w w' := by
  go_enter Tryz.func87, Tryz.ntmps87
  go_wp2_with (with_reducible refine at_store 140 _ _ rfl ?_)
  refine Lib.hid ?_
  refine list_letter ?_
  intro W hW
  have B := Lib.hid (show Below w.heap.size w W by rw [hW.out]; exact (((Below.refl _ _).alloc (Nat.le_refl _) _).alloc (by simp) _).alloc (by simp; omega) _)
  have S := Lib.hid (show Blk W w.heap.size 137 (cellsE ⟨F, T, L, H, false, true, den, don, cal⟩) by rw [hW.out]; exact ((Blk.new w _ _).alloc _).alloc _)
  have Z : ∀ X : World, Blk (X.alloc (.cells #[.int .u32 0, .int .u32 0, .int .u32 0, .int .u32 0, .bool false, .bool false, .bool false, .bool false, .bool false] 140)) X.heap.size 140 zcells := fun X => Blk.new X _ zcells
  have Z1 := Lib.hid (show Blk W (w.heap.size + 1) 140 zcells by
    rw [hW.out]
    have e := (Z (w.alloc (.cells (cellsE ⟨F, T, L, H, false, true, den, don, cal⟩).toArray 137))).alloc (.cells #[.int .u32 0, .int .u32 0, .int .u32 0, .int .u32 0, .bool false, .bool false, .bool false, .bool false, .bool false] 140)
    simpa using e)
  have Z2 := Lib.hid (show Blk W (w.heap.size + 2) 140 zcells by
    rw [hW.out]
    have e := Z ((w.alloc (.cells (cellsE ⟨F, T, L, H, false, true, den, don, cal⟩).toArray 137)).alloc (.cells #[.int .u32 0, .int .u32 0, .int .u32 0, .int .u32 0, .bool false, .bool false, .bool false, .bool false, .bool false] 140))
    simpa using e)
  clear hW Z
  obtain ⟨g, hg⟩ : ∃ g, w.heap.size = g := ⟨_, rfl⟩
  rw [hg] at B S Z1 Z2
  rw [hg]
  refine store_all rfl _ _ _ rfl (g + 2) [.int .u32 F, .int .u32 T, .int .u32 L, .int .u32 0, .bool false, .bool false, .bool den, .bool don, .bool cal] rfl rfl 140 _ Z2.out (by kernel_rfl) rfl (by simp [Value.oneCell']) ?_
  intro Y hY hoY
  have BY := Lib.hid (show Below g w Y from B.out.trans (hoY.below (Nat.le_trans (Nat.le_add_right g 2) (Nat.le_of_lt Z2.out.lt)) (fun k e => by have : k = g + 2 := e; omega)))
  have SY := Lib.hid (show Blk Y g 137 (cellsE ⟨F, T, L, H, false, true, den, don, cal⟩) from S.out.only hoY (by show ¬ g = g + 2; omega))
  have RY := Lib.hid (show Blk Y (g + 1) 140 zcells from Z1.out.only hoY (by show ¬ g + 1 = g + 2; omega))
  have NY := Lib.hid hY
  clear hY hoY B S Z1 Z2
  have s2 := SY.out.at 2 rfl
  have s3 := SY.out.at 3 rfl
  have s4 := SY.out.at 4 rfl
  have s5 := SY.out.at 5 rfl
  have n0 := NY.out.at 0 rfl
  have n1 := NY.out.at 1 rfl
  have n2 := NY.out.at 2 rfl
  have n3 := NY.out.at 3 rfl
  have n4 := NY.out.at 4 rfl
  have n5 := NY.out.at 5 rfl
  have n6 := NY.out.at 6 rfl
  have n7 := NY.out.at 7 rfl
  have n8 := NY.out.at 8 rfl
  have q3 := NY.out.frozen 3
  have q4 := NY.out.frozen 4
  have q5 := NY.out.frozen 5
  go_wp2_with (with_reducible refine at_store 140 _ _ rfl ?_)
  refine Lib.hid ?_
  refine store_all rfl _ _ _ rfl (g + 1) (cellsE ⟨F, T, L, 0, false, true, den, don, cal⟩) rfl rfl 140 _ (RY.out.other (by show ¬ g + 1 = g + 2; omega) _) (by kernel_rfl) rfl (by simp [Value.oneCell']) ?_
  intro X hX hoX
  have BX := Lib.hid (show Below g w X from (BY.out.setCell (by show g ≤ g + 2; omega) _).trans (hoX.below (Nat.le_trans (Nat.le_add_right g 1) (Nat.le_of_lt (RY.out.other (by show ¬ g + 1 = g + 2; omega) _).lt)) (fun k e => by have : k = g + 1 := e; omega)))
  have RX := Lib.hid hX
  clear hX hoX
  have r0 := RX.out.at 0 rfl
  have r1 := RX.out.at 1 rfl
  have r2 := RX.out.at 2 rfl
  have r3 := RX.out.at 3 rfl
  have r4 := RX.out.at 4 rfl
  have r5 := RX.out.at 5 rfl
  have r6 := RX.out.at 6 rfl
  have r7 := RX.out.at 7 rfl
  have r8 := RX.out.at 8 rfl
  go_wp2_with fail
  refine bodyPost_ret (v := stE ⟨F, T, L, 0, false, true, den, don, cal⟩) ?_ rfl ⟨rfl, BX.out⟩
  simp [results, Tryz.results87, go_sem, r0, r1, r2, r3, r4, r5, r6, r7, r8]
set_option maxHeartbeats 1000000 in
theorem stateOf_d (F T L H : Int) (den don cal : Bool) (w : World) (d : decide (0 < L) = true) :
    Calls Tryz.prog 87 #[stE ⟨F, T, L, H, true, true, den, don, cal⟩] w fun e w' => e = .returned (stE ⟨F, T, L, H, true, true, den, don, cal⟩) ∧ Below w.heap.size w w' := by
  go_enter Tryz.func87, Tryz.ntmps87
  go_wp2_with (with_reducible refine at_store 140 _ _ rfl ?_)
  refine Lib.hid ?_
  refine list_letter ?_
  intro W hW
  have B := Lib.hid (show Below w.heap.size w W by rw [hW.out]; exact (((Below.refl _ _).alloc (Nat.le_refl _) _).alloc (by simp) _).alloc (by simp; omega) _)
  have S := Lib.hid (show Blk W w.heap.size 137 (cellsE ⟨F, T, L, H, true, true, den, don, cal⟩) by rw [hW.out]; exact ((Blk.new w _ _).alloc _).alloc _)
  have Z : ∀ X : World, Blk (X.alloc (.cells #[.int .u32 0, .int .u32 0, .int .u32 0, .int .u32 0, .bool false, .bool false, .bool false, .bool false, .bool false] 140)) X.heap.size 140 zcells := fun X => Blk.new X _ zcells
  have Z1 := Lib.hid (show Blk W (w.heap.size + 1) 140 zcells by
    rw [hW.out]
    have e := (Z (w.alloc (.cells (cellsE ⟨F, T, L, H, true, true, den, don, cal⟩).toArray 137))).alloc (.cells #[.int .u32 0, .int .u32 0, .int .u32 0, .int .u32 0, .bool false, .bool false, .bool false, .bool false, .bool false] 140)
    simpa using e)
  have Z2 := Lib.hid (show Blk W (w.heap.size + 2) 140 zcells by
    rw [hW.out]
    have e := Z ((w.alloc (.cells (cellsE ⟨F, T, L, H, true, true, den, don, cal⟩).toArray 137)).alloc (.cells #[.int .u32 0, .int .u32 0, .int .u32 0, .int .u32 0, .bool false, .bool false, .bool false, .bool false, .bool false] 140))
    simpa using e)
  clear hW Z
  obtain ⟨g, hg⟩ : ∃ g, w.heap.size = g := ⟨_, rfl⟩
  rw [hg] at B S Z1 Z2
  rw [hg]
  refine store_all rfl _ _ _ rfl (g + 2) [.int .u32 F, .int .u32 T, .int .u32 L, .int .u32 0, .bool false, .bool false, .bool den, .bool don, .bool cal] rfl rfl 140 _ Z2.out (by kernel_rfl) rfl (by simp [Value.oneCell']) ?_
  intro Y hY hoY
  have BY := Lib.hid (show Below g w Y from B.out.trans (hoY.below (Nat.le_trans (Nat.le_add_right g 2) (Nat.le_of_lt Z2.out.lt)) (fun k e => by have : k = g + 2 := e; omega)))
  have SY := Lib.hid (show Blk Y g 137 (cellsE ⟨F, T, L, H, true, true, den, don, cal⟩) from S.out.only hoY (by show ¬ g = g + 2; omega))
  have RY := Lib.hid (show Blk Y (g + 1) 140 zcells from Z1.out.only hoY (by show ¬ g + 1 = g + 2; omega))
  have NY := Lib.hid hY
  clear hY hoY B S Z1 Z2
  have s2 := SY.out.at 2 rfl
  have s3 := SY.out.at 3 rfl
  have s4 := SY.out.at 4 rfl
  have s5 := SY.out.at 5 rfl
  have n0 := NY.out.at 0 rfl
  have n1 := NY.out.at 1 rfl
  have n2 := NY.out.at 2 rfl
  have n3 := NY.out.at 3 rfl
  have n4 := NY.out.at 4 rfl
  have n5 := NY.out.at 5 rfl
  have n6 := NY.out.at 6 rfl
  have n7 := NY.out.at 7 rfl
  have n8 := NY.out.at 8 rfl
  have q3 := NY.out.frozen 3
  have q4 := NY.out.frozen 4
  have q5 := NY.out.frozen 5
  go_wp2_with fail
  refine calls_letter ?_
  intro U hU
  have BU := Lib.hid (show Below g w U by rw [hU.out]; exact BY.out.setCell (by show g ≤ g + 2; omega) _)
  have RU := Lib.hid (show Blk U (g + 1) 140 zcells by rw [hU.out]; exact RY.out.other (by show ¬ g + 1 = g + 2; omega) _)
  have NU := Lib.hid (show Blk U (g + 2) 140 [.int .u32 F, .int .u32 T, .int .u32 L, .int .u32 0, .bool false, .bool true, .bool den, .bool don, .bool cal] by rw [hU.out]; exact NY.out.set 5 (.bool true))
  clear hU s2 s3 s4 s5 n0 n1 n2 n3 n4 n5 n6 n7 n8 q3 q4 q5 BY SY RY NY
  have HH := Lib.hid (hold_any (g + 2) H _ _ U (NU.out.at 3 rfl) (NU.out.at 4 rfl) (NU.out.frozen 3) (NU.out.frozen 4))
  refine HH.out.mono ?_
  rintro e V ⟨rfl, hV⟩
  have BV := Lib.hid (show Below g w V by rw [hV]; exact (BU.out.setCell (by show g ≤ g + 2; omega) _).setCell (by show g ≤ g + 2; omega) _)
  have RV := Lib.hid (show Blk V (g + 1) 140 zcells by rw [hV]; exact (RU.out.other (by show ¬ g + 1 = g + 2; omega) _).other (by show ¬ g + 1 = g + 2; omega) _)
  have NV := Lib.hid (show Blk V (g + 2) 140 (cellsE ⟨F, T, L, H, true, true, den, don, cal⟩) by rw [hV]; exact (NU.out.set 3 (.int .u32 H)).set 4 (.bool true))
  clear hV HH
  have m0 := NV.out.at 0 rfl
  have m1 := NV.out.at 1 rfl
  have m2 := NV.out.at 2 rfl
  have m3 := NV.out.at 3 rfl
  have m4 := NV.out.at 4 rfl
  have m5 := NV.out.at 5 rfl
  have m6 := NV.out.at 6 rfl
  have m7 := NV.out.at 7 rfl
  have m8 := NV.out.at 8 rfl
  go_wp2_with (with_reducible refine at_store 140 _ _ rfl ?_)
  refine Lib.hid ?_
  refine store_all rfl _ _ _ rfl (g + 1) (cellsE ⟨F, T, L, H, true, true, den, don, cal⟩) rfl rfl 140 _ RV.out (by kernel_rfl) rfl (by simp [Value.oneCell']) ?_
  intro X hX hoX
  have BX := Lib.hid (show Below g w X from BV.out.trans (hoX.below (Nat.le_trans (Nat.le_add_right g 1) (Nat.le_of_lt RV.out.lt)) (fun k e => by have : k = g + 1 := e; omega)))
  have RX := Lib.hid hX
  clear hX hoX
  have r0 := RX.out.at 0 rfl
  have r1 := RX.out.at 1 rfl
  have r2 := RX.out.at 2 rfl
  have r3 := RX.out.at 3 rfl
  have r4 := RX.out.at 4 rfl
  have r5 := RX.out.at 5 rfl
  have r6 := RX.out.at 6 rfl
  have r7 := RX.out.at 7 rfl
  have r8 := RX.out.at 8 rfl
  go_wp2_with fail
  refine bodyPost_ret (v := stE ⟨F, T, L, H, true, true, den, don, cal⟩) ?_ rfl ⟨rfl, BX.out⟩
  simp [results, Tryz.results87, go_sem, r0, r1, r2, r3, r4, r5, r6, r7, r8]
theorem stateOf_any (s : En) (w : World) :
    Calls Tryz.prog 87 #[stE s] w fun e w' => e = .returned (stE (ofE s)) ∧ Below w.heap.size w w' := by
  obtain ⟨F, T, L, H, has, busy, den, don, cal⟩ := s
  cases busy
  · rw [show ofE ⟨F, T, L, H, has, false, den, don, cal⟩ = ⟨F, T, L, 0, false, false, den, don, cal⟩ by cases has <;> simp [ofE]]
    exact stateOf_a F T L H has den don cal w
  · by_cases hl : 0 < L
    · cases has
      · rw [show ofE ⟨F, T, L, H, false, true, den, don, cal⟩ = ⟨F, T, L, 0, false, true, den, don, cal⟩ by simp [ofE, hl]]
        exact stateOf_c F T L H den don cal w (decide_eq_true hl)
      · rw [show ofE ⟨F, T, L, H, true, true, den, don, cal⟩ = ⟨F, T, L, H, true, true, den, don, cal⟩ by simp [ofE, hl]]
        exact stateOf_d F T L H den don cal w (decide_eq_true hl)
    · rw [show ofE ⟨F, T, L, H, has, true, den, don, cal⟩ = ⟨F, T, L, 0, false, false, den, don, cal⟩ by cases has <;> simp [ofE, hl]]
      exact stateOf_b F T L H has den don cal w (decide_eq_false hl)
theorem Of_core (s t : En) (w : World) (hg : ∀ w, Calls Tryz.prog 87 #[stE s] w fun e w' => e = .returned (stE t) ∧ Below w.heap.size w w') (h : OkE t) :
    Calls Tryz.prog 68 #[stE s] w fun e w' => (∃ b, e = .returned (me b) ∧ EX w' b t false (me b) ∧ w.heap.size ≤ b) ∧ Below w.heap.size w w' := by
  have G := Lib.hid hg
  have H := Lib.hid h
  clear h hg
  go_enter Tryz.func68, Tryz.ntmps68
  go_wp2_with fail
  refine (G.out _).mono ?_
  rintro e w1 ⟨rfl, hb⟩
  have B1 := Lib.hid (show Below w.heap.size w w1 from ((Below.refl _ _).alloc (Nat.le_refl _) _).trans (hb.mono (by simp)))
  have hs := B1.out.size
  clear hb G
  go_wp2_with fail
  go_ret
  exact ⟨⟨_, rfl, ⟨Blk.new w1 _ (cellsQ t false (me w1.heap.size)), H.out⟩, hs⟩, B1.out.alloc hs _⟩
theorem Of_any0 (s : En) (w : World) (h : OkE s) :
    Calls Tryz.prog 68 #[stE s] w fun e w' => (∃ b, e = .returned (me b) ∧ EX w' b (ofE s) false (me b) ∧ w.heap.size ≤ b) ∧ Below w.heap.size w w' :=
  Of_core s (ofE s) w (fun w => stateOf_any s w) (ok_of h)
theorem New_any0 (w : World) :
    Calls Tryz.prog 49 #[] w fun e w' => (∃ b, e = .returned (me b) ∧ EX w' b zeroE false (me b) ∧ w.heap.size ≤ b) ∧ Below w.heap.size w w' := by
  have G := Lib.hid (Of_any0 zeroE w ok_zero)
  rw [show ofE zeroE = zeroE from rfl] at G
  go_enter Tryz.func49, Tryz.ntmps49
  go_wp2_with fail
  refine G.out.mono ?_
  rintro e w1 ⟨⟨b, rfl, h1, h2⟩, hb⟩
  have R := Lib.hid (And.intro h1 (And.intro h2 hb))
  clear h1 h2 hb
  go_wp2_with fail
  go_ret
  exact ⟨⟨b, rfl, R.out.1, R.out.2.1⟩, R.out.2.2⟩
end Go.Proofs.YtknhgfofmkpnfaaGreat.Dma
/- Package dma: who is asked; a step, from place to place. -/
namespace Go.Proofs.YtknhgfofmkpnfaaGreat.Dma
open Go.RowKit Go.Maps Go.ChangeShapes Go.WideShapes Go.ChangeAt Fifo Orow Word Fmap
set_option linter.unusedVariables false

/-- A scope whose gotos lead ever on: so many at the most. -/
def Jumps (P : Program) (c : Code) (Q : Exit → Act → World → Prop) : Nat → Exit → Act → World → Prop
  | 0, e, a, w => (match e with | .goto _ => False | e => Q e a w)
  | n + 1, e, a, w => (match e with | .goto l => ∃ rest, findLabel c l = some rest ∧ rest.wp P (Jumps P c Q n) a w | e => Q e a w)
theorem jumps_ret {P : Program} {c : Code} {Q : Exit → Act → World → Prop} (n : Nat) {a : Act} {w : World} : Jumps P c Q n .ret a w = Q .ret a w := by cases n <;> rfl
theorem jumps_normal {P : Program} {c : Code} {Q : Exit → Act → World → Prop} (n : Nat) {a : Act} {w : World} : Jumps P c Q n .normal a w = Q .normal a w := by cases n <;> rfl
theorem wp_scope_on {P : Program} {c : Code} {Q : Exit → Act → World → Prop} {a : Act} {w : World} (n : Nat) (h : c.wp P (Jumps P c Q n) a w) : (Code.scope c).wp P Q a w := by
  intro b k cs
  have key : ∀ n e a₁ w₁, Jumps P c Q n e a₁ w₁ → ∀ fr, Arrives P fr b (.inScope c :: k) cs e a₁ w₁ → ∃ e a' w', Q e a' w' ∧ Arrives P fr b k cs e a' w' := by
    intro n
    induction n with
    | zero =>
      intro e a₁ w₁ hq fr harr
      cases e with
      | normal => exact ⟨.normal, a₁, w₁, hq, Steps.trans harr (.one step_inScope)⟩
      | exit id => exact ⟨.exit id, a₁, w₁, hq, fun k' hk => harr k' (by simp [exitTo, hk])⟩
      | goto l' => exact hq.elim
      | ret => exact ⟨_, a₁, w₁, hq, harr⟩
      | panic ch => exact ⟨_, a₁, w₁, hq, harr⟩
      | outgrown => exact ⟨_, a₁, w₁, hq, harr⟩
    | succ n ih =>
      intro e a₁ w₁ hq fr harr
      cases e with
      | normal => exact ⟨.normal, a₁, w₁, hq, Steps.trans harr (.one step_inScope)⟩
      | exit id => exact ⟨.exit id, a₁, w₁, hq, fun k' hk => harr k' (by simp [exitTo, hk])⟩
      | goto l' =>
        obtain ⟨rest, hf, hr⟩ := hq
        have hg : gotoIn l' (.inScope c :: k) = some (.code rest :: .inScope c :: k) := by simp [gotoIn, hf]
        obtain ⟨e₂, a₂, w₂, hq₂, harr₂⟩ := hr b (.inScope c :: k) cs
        obtain ⟨e₃, a₃, w₃, hq₃, harr₃⟩ := ih e₂ a₂ w₂ hq₂ _ harr₂
        exact ⟨e₃, a₃, w₃, hq₃, .of_steps (harr _ hg) harr₃⟩
      | ret => exact ⟨_, a₁, w₁, hq, harr⟩
      | panic ch => exact ⟨_, a₁, w₁, hq, harr⟩
      | outgrown => exact ⟨_, a₁, w₁, hq, harr⟩
  obtain ⟨e, a₁, w₁, hq, harr⟩ := h b (.inScope c :: k) cs
  obtain ⟨e₂, a₂, w₂, hq₂, harr₂⟩ := key n e a₁ w₁ hq _ harr
  exact ⟨e₂, a₂, w₂, hq₂, .of_steps (.one step_scope) harr₂⟩
/-- The mark is taken away; nothing is recovered. -/
theorem marked_back (p b : Nat) (s : En) (x : Value) (w : World) (hp : w.cell? ⟨p, 0, none⟩ = some (.pointer (some ⟨b, 0, none⟩))) (c9 : w.cell? ⟨b, 9, none⟩ = some x) (f9 : w.frozen? ⟨b, 9, none⟩ = false) :
    CallsD Tryz.prog 94 #[.pointer (some ⟨p, 0, none⟩)] .returning w fun e u' w' => e = .returned (.tuple #[]) ∧ u' = .returning ∧ w' = w.setCell ⟨b, 9, none⟩ (.bool false) := by
  refine callsD_of_wpS Tryz.func94 rfl fun c₀ cs hu => ?_
  apply wpS_seq
  apply wpS_region
  simp [wpOpsS, go_sem, recoverD, hu, Tryz.ntmps94, Exit.thenS, hp, c9, f9]
  apply wpS_region
  simp [wpOpsS, go_sem, recoverD, hu, bodyPostS, results, Tryz.results94]
  cases c₀
  simp_all
/-- A box of one cell. -/
def Box (w : World) (p : Nat) (v : Value) : Prop := ∃ t, Blk w p t [v]
theorem Box.keep {w w' : World} {p : Nat} {v : Value} (h : Box w p v) (hb : Below w.heap.size w w') : Box w' p v := by
  obtain ⟨t, h⟩ := h
  exact ⟨t, h.keep hb⟩
theorem Box.only {S : Nat → Prop} {w w' : World} {p : Nat} {v : Value} (h : Box w p v) (ho : Only S w w') (hn : ¬ S p) : Box w' p v := by
  obtain ⟨t, h⟩ := h
  exact ⟨t, h.only ho hn⟩
theorem Box.lt {w : World} {p : Nat} {v : Value} (h : Box w p v) : p < w.heap.size := by
  obtain ⟨t, h⟩ := h
  exact h.lt
theorem Box.at {w : World} {p : Nat} {v : Value} (h : Box w p v) : w.cell? ⟨p, 0, none⟩ = some v := by
  obtain ⟨t, h⟩ := h
  exact h.at 0 rfl
theorem asker_any (b : Nat) (world : Int) (g : Nat) (rv lb : Array Value) (w : World) :
    Calls Tryz.prog 72 #[me b, .int .i64 world, .func (.func g) rv lb] w fun e w' => (∃ pe pa pw, e = .returned (.func (.func 93) #[] #[me pe, me pa, me pw]) ∧ Box w' pe (me b) ∧ Box w' pa (.func (.func g) rv lb) ∧ Box w' pw (.int .i64 world) ∧ w.heap.size ≤ pe ∧ w.heap.size ≤ pa ∧ w.heap.size ≤ pw) ∧ Below w.heap.size w w' := by
  have hmf : ∀ (fn : Fn) (first cap : Array Value) (w : World), (Instr.makeFunc fn first cap).run Tryz.prog w = .ok (.func fn first cap) w := fun _ _ _ _ => rfl
  go_enter Tryz.func72, Tryz.ntmps72
  go_wp2_with fail
  go_ret
  refine ⟨⟨w.heap.size, w.heap.size + 2, w.heap.size + 1, by simp, ?_, ?_, ?_, Nat.le_refl _, by omega, by omega⟩, (((Below.refl _ _).alloc (Nat.le_refl _) _).alloc (by simp) _).alloc (by simp; omega) _⟩
  · exact ⟨_, ((Blk.new w _ [me b]).alloc _).alloc _⟩
  · have e := Blk.new ((w.alloc (.cells #[me b] 100)).alloc (.cells #[.int .i64 world] 3)) 61 [.func (.func g) rv lb]
    exact ⟨_, by simpa using e⟩
  · have e := (Blk.new (w.alloc (.cells #[me b] 100)) 3 [.int .i64 world]).alloc (.cells #[.func (.func g) rv lb] 61)
    exact ⟨_, by simpa using e⟩
theorem asks_any (b : Nat) (s : En) (x : Value) (pe pa pw : Nat) (g : Nat) (rv lb : Array Value) (world : Int) (S : Nat → Prop) (T : Int → Int → World → Prop) (wr : Bool) (A D : Int) (w : World)
    (h : EX w b s false x) (he : Box w pe (me b)) (ha : Box w pa (.func (.func g) rv lb)) (hw : Box w pw (.int .i64 world)) (hne : pe ≠ b ∧ pa ≠ b ∧ pw ≠ b) (hS : ∀ j, S j → j ≠ b ∧ j ≠ pe)
    (eg : ∀ args w, (callFunc g args).run Tryz.prog w = .ok (.enter g args) w)
    (hq : Calls Tryz.prog g (rv ++ #[accV world wr A 4 D] ++ lb) (w.setCell ⟨b, 9, none⟩ (.bool true)) fun e w' => ∃ v err, e = .returned (.agg #[.int .u32 v, .int .i64 err]) ∧ T v err w' ∧ Only S (w.setCell ⟨b, 9, none⟩ (.bool true)) w') :
    Calls Tryz.prog 93 #[.bool wr, .int .u32 A, .int .u32 D, me pe, me pa, me pw] w fun e w' => ∃ v err W1, e = .returned (.tuple #[.int .u32 v, .bool (err == 0)]) ∧ T v err W1 ∧ Only S (w.setCell ⟨b, 9, none⟩ (.bool true)) W1 ∧ EX w' b s false x ∧ Only (fun j => j = b) W1 w' := by
  have hmf : ∀ (fn : Fn) (first cap : Array Value) (w : World), (Instr.makeFunc fn first cap).run Tryz.prog w = .ok (.func fn first cap) w := fun _ _ _ _ => rfl
  have M := Lib.hid (ex_set h 9 (.bool true) (s' := s) (k' := true) rfl h.ok)
  have PE := Lib.hid (he.only M.out.2 hne.1)
  have HS := Lib.hid hS
  have Q := Lib.hid hq
  have c9 := h.c 9 rfl
  have f9 := h.blk.frozen 9
  have ce := he.at
  have ca := ha.at
  have cw := hw.at
  have n1 : ¬ pe = b := hne.1
  have n2 : ¬ pa = b := hne.2.1
  have n3 : ¬ pw = b := hne.2.2
  have n4 : ¬ b = pe := fun e => n1 e.symm
  have n5 : ¬ b = pa := fun e => n2 e.symm
  have n6 : ¬ b = pw := fun e => n3 e.symm
  clear h he ha hw hne hS hq
  go_enter_defers Tryz.func93, Tryz.ntmps93
  go_wp2_with fail
  refine Q.out.mono ?_
  rintro e W1 ⟨v, err, rfl, hT, hO⟩
  have R := Lib.hid (And.intro hT hO)
  have M1 := Lib.hid (M.out.1.only hO (fun h => (HS.out b h).1 rfl))
  have PE1 := Lib.hid (PE.out.only hO (fun h => (HS.out pe h).2 rfl))
  clear hT hO Q c9 f9 ce ca cw
  go_wp2_with fail
  refine code_letter ?_
  intro U hU
  have B := Lib.hid (show Below W1.heap.size W1 U by rw [hU.out]; exact (Below.refl _ _).alloc (Nat.le_refl _) _)
  have Z := Lib.hid (show Blk U W1.heap.size 60 [.int .u32 v, .int .i64 err] by rw [hU.out]; exact Blk.new W1 _ _)
  clear hU
  have z0 := Z.out.at 0 rfl
  have z1 := Z.out.at 1 rfl
  go_region
  go_wp2_with fail
  have M2 := Lib.hid (EX.keep (w := U) (w' := U.drew) (M1.out.keep B.out) (Below.refl _ _).drew)
  have PE2 := Lib.hid (Box.keep (w := U) (w' := U.drew) (PE1.out.keep B.out) (Below.refl _ _).drew)
  have BB := Lib.hid (show Below W1.heap.size W1 U.drew from B.out.drew)
  refine leaves_cons (f := 94) (args := #[me pe]) (by simp) (by simp [go_sem]) ?_
  refine (marked_back pe b s _ _ PE2.out.at (M2.out.c 9 rfl) (M2.out.blk.frozen 9)).mono ?_
  rintro e u' w2 ⟨rfl, rfl, rfl⟩
  have F := ex_set M2.out 9 (.bool false) (s' := s) (k' := false) rfl M2.out.ok
  exact ⟨_, results_tmp2 rfl _ _ _, v, err, W1, rfl, R.out.1, R.out.2, F.1, (Only.of_below BB.out).trans F.2⟩
/-- What a step leaves. -/
def Stepped (R : World → Int → Int → World → Prop) (b : Nat) (s : En) (x : Value) (w w' : World) : Prop := ∃ W W1 v err, Below w.heap.size w W ∧ (0 ≤ v ∧ v < 4294967296) ∧ R W v err W1 ∧ EX w' b (toldE s v err) false x ∧ Only (fun j => j = b) W1 w'
theorem plus4_b (x : Int) : 0 ≤ plus4 x ∧ plus4 x < 4294967296 := by unfold plus4; omega
theorem toldX_yes (F T L H : Int) (don den cal : Bool) (v : Int) : toldE ⟨F, T, L, H, false, true, den, don, cal⟩ v 0 = ⟨plus4 F, T, L, v, true, true, den, don, cal⟩ := by simp [toldE]
theorem toldX_no (F T L H : Int) (has busy den don cal : Bool) (v err : Int) (h : err ≠ 0) : toldE ⟨F, T, L, H, has, busy, den, don, cal⟩ v err = ⟨F, T, L, 0, false, false, true, don, cal⟩ := by simp [toldE, h]
theorem toldX_last (F T L H : Int) (den don cal : Bool) (v : Int) (h : L = 1) : toldE ⟨F, T, L, H, true, true, den, don, cal⟩ v 0 = ⟨F, plus4 T, 0, 0, false, false, den, true, cal⟩ := by simp [toldE, h]
theorem toldX_more (F T L H : Int) (den don cal : Bool) (v : Int) (h : L ≠ 1) : toldE ⟨F, T, L, H, true, true, den, don, cal⟩ v 0 = ⟨F, plus4 T, (L - 1) % 4294967296, 0, false, true, den, don, cal⟩ := by simp [toldE, h]
theorem step_read (b : Nat) (F T L H : Int) (den don cal : Bool) (x : Value) (ga : Nat) (la : Array Value) (eg : ∀ args w, (callFunc ga args).run Tryz.prog w = .ok (.enter ga args) w) (R : World → Int → Int → World → Prop) (w : World)
    (h : EX w b ⟨F, T, L, H, false, true, den, don, cal⟩ false x) (hq : ∀ W, Below w.heap.size w W → Calls Tryz.prog ga (#[.bool false, .int .u32 F, .int .u32 0] ++ la) W fun e w' => ∃ v err, e = .returned (.tuple #[.int .u32 v, .bool (err == 0)]) ∧ (0 ≤ v ∧ v < 4294967296) ∧ R W v err w' ∧ EX w' b ⟨F, T, L, H, false, true, den, don, cal⟩ false x) :
    Calls Tryz.prog 71 #[me b, .func (.func ga) #[] la] w fun e w' => e = .returned (.tuple #[]) ∧ Stepped R b ⟨F, T, L, H, false, true, den, don, cal⟩ x w w' := by
  have c4 := h.c 4 rfl
  have c0 := h.c 0 rfl
  have Q := Lib.hid (hq w (Below.refl _ _))
  have ei : IntKind.u32.wrap (F + 4) = plus4 F := IntKind.wrap_u32 _
  have ei2 : (F + 4) % 4294967296 = plus4 F := rfl
  have ty := Lib.hid (fun v => toldX_yes F T L H don den cal v)
  have pb := Lib.hid (plus4_b F)
  obtain ⟨n, hn⟩ : ∃ n, plus4 F = n := ⟨_, rfl⟩
  rw [hn] at ei ei2 ty pb
  clear h hq hn
  go_enter Tryz.func71, Tryz.ntmps71
  refine wp_scope_on 3 ?_
  go_wp2_with fail
  refine Q.out.mono ?_
  rintro e w1 ⟨v, err, rfl, hv, hR, h1⟩
  have BW := Lib.hid (Below.refl w.heap.size w)
  obtain ⟨W0, hW0⟩ : ∃ W0, w = W0 := ⟨_, rfl⟩
  have RR := Lib.hid (show R W0 v err w1 by rw [← hW0]; exact hR)
  have BW := Lib.hid (show Below w.heap.size w W0 by rw [← hW0]; exact Below.refl _ _)
  have M := Lib.hid h1
  have V := Lib.hid hv
  clear hR h1 hv Q c4 c0 hW0
  have c5 := M.out.c 5 rfl
  obtain ⟨B, hB⟩ : ∃ B, (err == 0) = B := ⟨_, rfl⟩
  rw [hB]
  cases B
  · have HE := Lib.hid (show err ≠ 0 by simpa using hB)
    clear hB
    go_wp2_with fail
    go_step3
    refine ⟨_, rfl, ?_⟩
    go_wp2_with fail
    go_step3
    refine ⟨_, rfl, ?_⟩
    go_wp2_with fail
    refine (stop_any b ⟨F, T, L, H, false, true, den, don, cal⟩ false x _ M.out).mono ?_
    rintro e w2 ⟨rfl, h1, h2⟩
    have N := Lib.hid (ex_set h1 6 (.bool true) (s' := ⟨F, T, L, 0, false, false, true, don, cal⟩) (k' := false) rfl ⟨h1.ok.f, h1.ok.t, h1.ok.l, h1.ok.h⟩)
    have O2 := Lib.hid h2
    have d6 := h1.c 6 rfl
    have g6 := h1.blk.frozen 6
    clear h1 h2 c5
    go_wp2_with fail
    rw [jumps_normal]
    go_end0
    exact ⟨rfl, W0, w1, v, err, BW.out, V.out, RR.out, by rw [toldX_no F T L H false true den don cal v err HE.out]; exact N.out.1, O2.out.trans N.out.2⟩
  · have HE := Lib.hid (show err = 0 by simpa using hB)
    clear hB
    go_wp2_with fail
    go_step3
    refine ⟨_, rfl, ?_⟩
    go_wp2_with fail
    refine (hold_any b v _ _ w1 (M.out.c 3 rfl) (M.out.c 4 rfl) (M.out.blk.frozen 3) (M.out.blk.frozen 4)).mono ?_
    rintro e w2 ⟨rfl, hw2⟩
    have M2 := Lib.hid (show EX w2 b ⟨F, T, L, v, true, true, den, don, cal⟩ false x ∧ Only (fun j => j = b) w1 w2 by
      rw [hw2]
      exact ex_set2 M.out 3 (.int .u32 v) (s' := ⟨F, T, L, v, false, true, den, don, cal⟩) (k' := false) rfl ⟨M.out.ok.f, M.out.ok.t, M.out.ok.l, V.out⟩ 4 (.bool true) (s'' := ⟨F, T, L, v, true, true, den, don, cal⟩) (k'' := false) rfl ⟨M.out.ok.f, M.out.ok.t, M.out.ok.l, V.out⟩)
    have N := Lib.hid (ex_set M2.out.1 0 (.int .u32 n) (s' := ⟨n, T, L, v, true, true, den, don, cal⟩) (k' := false) rfl ⟨pb.out, M2.out.1.ok.t, M2.out.1.ok.l, M2.out.1.ok.h⟩)
    have d0 := M2.out.1.c 0 rfl
    have g0 := M2.out.1.blk.frozen 0
    clear hw2 c5
    go_wp2_with fail
    rw [jumps_ret]
    refine bodyPost_ret (results_none rfl _ _ _) rfl ?_
    exact ⟨rfl, W0, w1, v, err, BW.out, V.out, RR.out, by rw [HE.out, ty.out v]; exact N.out.1, M2.out.2.trans N.out.2⟩
set_option maxHeartbeats 1000000 in
theorem step_write (b : Nat) (F T L H : Int) (den don cal : Bool) (x : Value) (ga : Nat) (la : Array Value) (eg : ∀ args w, (callFunc ga args).run Tryz.prog w = .ok (.enter ga args) w) (R : World → Int → Int → World → Prop) (w : World)
    (h : EX w b ⟨F, T, L, H, true, true, den, don, cal⟩ false x) (hq : ∀ W, Below w.heap.size w W → Calls Tryz.prog ga (#[.bool true, .int .u32 T, .int .u32 H] ++ la) W fun e w' => ∃ v err, e = .returned (.tuple #[.int .u32 v, .bool (err == 0)]) ∧ (0 ≤ v ∧ v < 4294967296) ∧ R W v err w' ∧ EX w' b ⟨F, T, L, H, true, true, den, don, cal⟩ false x) :
    Calls Tryz.prog 71 #[me b, .func (.func ga) #[] la] w fun e w' => e = .returned (.tuple #[]) ∧ Stepped R b ⟨F, T, L, H, true, true, den, don, cal⟩ x w w' := by
  have c4 := h.c 4 rfl
  have Q := Lib.hid (hq w.drew (Below.refl _ _).drew)
  have HS : EX w.drew b ⟨F, T, L, H, true, true, den, don, cal⟩ false x := h.keep (Below.refl _ _).drew
  have bT := Lib.hid h.ok.t
  have bL := Lib.hid h.ok.l
  have ei : IntKind.u32.wrap (T + 4) = plus4 T := IntKind.wrap_u32 _
  have ei2 : (T + 4) % 4294967296 = plus4 T := rfl
  have tl := Lib.hid (fun v h => toldX_last F T L H den don cal v h)
  have tm := Lib.hid (fun v h => toldX_more F T L H den don cal v h)
  have pb := Lib.hid (plus4_b T)
  obtain ⟨n, hn⟩ : ∃ n, plus4 T = n := ⟨_, rfl⟩
  rw [hn] at ei ei2 tl tm pb
  clear h hq hn
  have l1 : ∀ w', EX w' b ⟨F, T, L, H, true, true, den, don, cal⟩ false x → w'.cell? ⟨b, 1, none⟩ = some (.int .u32 T) := fun w' h => h.c 1 rfl
  have l3 : ∀ w', EX w' b ⟨F, T, L, H, true, true, den, don, cal⟩ false x → w'.cell? ⟨b, 3, none⟩ = some (.int .u32 H) := fun w' h => h.c 3 rfl
  go_enter Tryz.func71, Tryz.ntmps71
  refine wp_scope_on 3 ?_
  go_wp2_with fail
  go_step3
  refine ⟨_, rfl, ?_⟩
  go_wp2_with fail
  refine wp_region_held_drew (S := fun w' => EX w' b ⟨F, T, L, H, true, true, den, don, cal⟩ false x) (by kernel_rfl) HS (fun hHeld => ?_)
  refine wpAnyH_take (i := 0) (v := ?_) rfl (by kernel_rfl) (by kernel_rfl) (by kernel_rfl) (fun _ _ _ h => h) (Or.inl ⟨by rfl, ?_⟩) (by assumption) ?_
  rotate_left
  · (intro w hSw; (try dsimp only at hSw); go_simp; try (with_reducible rfl))
  try simp only [Act.put]
  refine wpAnyH_take (i := 1) (v := ?_) rfl (by kernel_rfl) (by kernel_rfl) (by kernel_rfl) (fun _ _ _ h => h) (Or.inl ⟨by rfl, ?_⟩) (by assumption) ?_
  rotate_left
  · (intro w hSw; (try dsimp only at hSw); go_simp; try (with_reducible rfl))
  try simp only [Act.put]
  refine wpAnyH_take (i := 2) (v := ?_) rfl (by kernel_rfl) (by kernel_rfl) (by kernel_rfl) (fun _ _ _ h => h) (Or.inl ⟨by rfl, ?_⟩) (by assumption) ?_
  rotate_left
  · (intro w hSw; (try dsimp only at hSw); go_simp; try (with_reducible rfl))
  try simp only [Act.put]
  refine wpAnyH_take (i := 3) (v := ?_) rfl (by kernel_rfl) (by kernel_rfl) (by kernel_rfl) (fun _ _ _ h => h) (Or.inl ⟨by rfl, ?_⟩) (by assumption) ?_
  rotate_left
  · (intro w hSw; (try dsimp only at hSw); go_simp; try (with_reducible rfl))
  try simp only [Act.put]
  refine wpAnyH_take (i := 4) (v := ?_) rfl (by kernel_rfl) (by kernel_rfl) (by kernel_rfl) (fun _ _ _ h => h) (Or.inl ⟨by rfl, ?_⟩) (by assumption) ?_
  rotate_left
  · (intro w hSw; (try dsimp only at hSw); go_simp; try (with_reducible rfl))
  try simp only [Act.put]
  refine wpAnyH_take (i := 5) (v := ?_) rfl (by kernel_rfl) (by kernel_rfl) (by kernel_rfl) (fun _ _ _ h => h) (Or.inl ⟨by rfl, ?_⟩) (by assumption) ?_
  rotate_left
  · (intro w hSw; (try dsimp only at hSw); go_simp; try (with_reducible rfl))
  try simp only [Act.put]
  refine wpAnyH_take (i := 6) (v := ?_) rfl (by kernel_rfl) (by kernel_rfl) (by kernel_rfl) (fun _ _ _ h => h) (Or.inl ⟨by rfl, ?_⟩) (by assumption) ?_
  rotate_left
  · (intro w hSw; (try dsimp only at hSw); go_simp; try (with_reducible rfl))
  try simp only [Act.put]
  refine wpAnyH_take (i := 7) (v := ?_) rfl (by kernel_rfl) (by kernel_rfl) (by kernel_rfl) (fun _ _ _ h => h) (Or.inl ⟨by rfl, ?_⟩) (by assumption) ?_
  rotate_left
  · (intro w hSw; (try dsimp only at hSw); go_simp; try (with_reducible rfl))
  try simp only [Act.put]
  refine wpAnyH_take (i := 8) (v := ?_) rfl (by kernel_rfl) (by kernel_rfl) (by kernel_rfl) (fun _ _ _ h => h) (Or.inl ⟨by rfl, ?_⟩) (by assumption) ?_
  rotate_left
  · (intro w hSw; (try dsimp only at hSw); go_simp; try (with_reducible rfl))
  try simp only [Act.put]
  refine wpAnyH_take (i := 9) (v := ?_) rfl (by kernel_rfl) (by kernel_rfl) (by kernel_rfl) (fun _ _ _ h => h) (Or.inl ⟨by rfl, ?_⟩) (by assumption) ?_
  rotate_left
  · (intro w hSw; (try dsimp only at hSw); go_simp; try (with_reducible rfl))
  try simp only [Act.put]
  refine wpAnyH_take (i := 10) (v := ?_) rfl (by kernel_rfl) (by kernel_rfl) (by kernel_rfl) (fun _ _ _ h => h) (Or.inl ⟨by rfl, ?_⟩) (by assumption) ?_
  rotate_left
  · (intro w hSw; (try dsimp only at hSw); go_simp; try (with_reducible rfl))
  try simp only [Act.put]
  refine wpAnyH_ready (rs := [11]) (by kernel_rfl) (by simp) ?_
  refine AllReadyH.cons rfl (fun K1 hK => ?_) AllReadyH.nil
  go_simp
  refine Q.out.mono ?_
  rintro e w1 ⟨v, err, rfl, hv, hR, h1⟩
  have BW := Lib.hid (show Below w.heap.size w w.drew from (Below.refl _ _).drew)
  obtain ⟨W0, hW0⟩ : ∃ W0, w.drew = W0 := ⟨_, rfl⟩
  rw [hW0] at BW
  have RR := Lib.hid (show R W0 v err w1 by rw [← hW0]; exact hR)
  have M := Lib.hid h1
  have V := Lib.hid hv
  have hon : EX w1 b ⟨F, T, L, H, true, true, den, don, cal⟩ false x := M.out
  clear hR h1 hv Q c4 hW0 HS
  refine hK.out _ _ hon (fun hHeld => ?_)
  clear hK hon
  try simp only [Act.put]
  refine wpAnyH_take (i := 12) (v := ?_) rfl (by kernel_rfl) (by kernel_rfl) (by kernel_rfl) (fun _ _ _ h => h) (Or.inl ⟨by rfl, ?_⟩) (by assumption) ?_
  rotate_left
  · (intro w hSw; (try dsimp only at hSw); go_simp; try (with_reducible rfl))
  try simp only [Act.put]
  refine wpAnyH_take (i := 13) (v := ?_) rfl (by kernel_rfl) (by kernel_rfl) (by kernel_rfl) (fun _ _ _ h => h) (Or.inl ⟨by rfl, ?_⟩) (by assumption) ?_
  rotate_left
  · (intro w hSw; (try dsimp only at hSw); go_simp; try (with_reducible rfl))
  try simp only [Act.put]
  refine wpAnyH_take (i := 14) (v := ?_) rfl (by kernel_rfl) (by kernel_rfl) (by kernel_rfl) (fun _ _ _ h => h) (Or.inl ⟨by rfl, ?_⟩) (by assumption) ?_
  rotate_left
  · (intro w hSw; (try dsimp only at hSw); go_simp; try (with_reducible rfl))
  try simp only [Act.put]
  refine wpAnyH_take (i := 15) (v := ?_) rfl (by kernel_rfl) (by kernel_rfl) (by kernel_rfl) (fun _ _ _ h => h) (Or.inl ⟨by rfl, ?_⟩) (by assumption) ?_
  rotate_left
  · (intro w hSw; (try dsimp only at hSw); go_simp; try (with_reducible rfl))
  try simp only [Act.put]
  refine wpAnyH_done (by kernel_rfl) ?_ _
  clear l1 l3
  have c5 := M.out.c 5 rfl
  obtain ⟨B, hB⟩ : ∃ B, (err == 0) = B := ⟨_, rfl⟩
  rw [hB]
  cases B
  · have HE := Lib.hid (show err ≠ 0 by simpa using hB)
    clear hB tl tm ei ei2
    go_wp2_with fail
    go_step3
    go_wp2_with fail
    go_step3
    refine ⟨_, rfl, ?_⟩
    go_wp2_with fail
    refine (stop_any b ⟨F, T, L, H, true, true, den, don, cal⟩ false x _ M.out).mono ?_
    rintro e w2 ⟨rfl, h1, h2⟩
    have N := Lib.hid (ex_set h1 6 (.bool true) (s' := ⟨F, T, L, 0, false, false, true, don, cal⟩) (k' := false) rfl ⟨h1.ok.f, h1.ok.t, h1.ok.l, h1.ok.h⟩)
    have O2 := Lib.hid h2
    have d6 := h1.c 6 rfl
    have g6 := h1.blk.frozen 6
    clear h1 h2 c5
    go_wp2_with fail
    rw [jumps_normal]
    go_end0
    exact ⟨rfl, W0, w1, v, err, BW.out, V.out, RR.out, by rw [toldX_no F T L H true true den don cal v err HE.out]; exact N.out.1, O2.out.trans N.out.2⟩
  · have HE := Lib.hid (show err = 0 by simpa using hB)
    clear hB
    go_wp2_with fail
    go_step3
    go_wp2_with fail
    go_step3
    refine ⟨_, rfl, ?_⟩
    go_wp2_with fail
    refine (drop_any b ⟨F, T, L, H, true, true, den, don, cal⟩ false x w1 M.out).mono ?_
    rintro e w2 ⟨rfl, h1, h2⟩
    have N := Lib.hid h1
    have O2 := Lib.hid h2
    clear h1 h2 c5
    have d1 := N.out.c 1 rfl
    have d2 := N.out.c 2 rfl
    have g1 := N.out.blk.frozen 1
    have g2 := N.out.blk.frozen 2
    have em : IntKind.u32.wrap (L - 1) = (L - 1) % 4294967296 := IntKind.wrap_u32 _
    by_cases hl : L = 1
    · have tt := Lib.hid (fun v => tl.out v hl)
      have m0 : (L - 1) % 4294967296 = 0 := by rw [hl]; rfl
      rw [m0] at em
      have X := Lib.hid (ex_set2 N.out 1 (.int .u32 n) (s' := ⟨F, n, L, 0, false, true, den, don, cal⟩) (k' := false) rfl ⟨N.out.ok.f, pb.out, N.out.ok.l, N.out.ok.h⟩ 2 (.int .u32 0) (s'' := ⟨F, n, 0, 0, false, true, den, don, cal⟩) (k'' := false) rfl ⟨N.out.ok.f, pb.out, N.out.ok.h, N.out.ok.h⟩)
      clear hl tl tm
      go_wp2_with fail
      refine calls_letter ?_
      intro U hU
      have Y := Lib.hid (show EX U b ⟨F, n, 0, 0, false, true, den, don, cal⟩ false x ∧ Only (fun j => j = b) w2 U by rw [hU.out]; exact X.out)
      clear hU X d1 d2 g1 g2
      refine (stop_any b _ false x U Y.out.1).mono ?_
      rintro e w3 ⟨rfl, h1, h2⟩
      have Z := Lib.hid (ex_set h1 7 (.bool true) (s' := ⟨F, n, 0, 0, false, false, den, true, cal⟩) (k' := false) rfl ⟨h1.ok.f, h1.ok.t, h1.ok.l, h1.ok.h⟩)
      have O3 := Lib.hid h2
      have d7 := h1.c 7 rfl
      have g7 := h1.blk.frozen 7
      clear h1 h2
      go_wp2_with fail
      rw [jumps_ret]
      refine bodyPost_ret (results_none rfl _ _ _) rfl ?_
      exact ⟨rfl, W0, w1, v, err, BW.out, V.out, RR.out, by rw [HE.out, tt.out v]; exact Z.out.1, O2.out.trans (Y.out.2.trans (O3.out.trans Z.out.2))⟩
    · have tt := Lib.hid (fun v => tm.out v hl)
      have ml : 0 < (L - 1) % 4294967296 ∧ (L - 1) % 4294967296 < 4294967296 := by have := bL.out; omega
      obtain ⟨m, hm⟩ : ∃ m, (L - 1) % 4294967296 = m := ⟨_, rfl⟩
      rw [hm] at em tt ml
      have mb := Lib.hid ml
      have dm : decide (0 < m) = true := decide_eq_true ml.1
      have X := Lib.hid (ex_set2 N.out 1 (.int .u32 n) (s' := ⟨F, n, L, 0, false, true, den, don, cal⟩) (k' := false) rfl ⟨N.out.ok.f, pb.out, N.out.ok.l, N.out.ok.h⟩ 2 (.int .u32 m) (s'' := ⟨F, n, m, 0, false, true, den, don, cal⟩) (k'' := false) rfl ⟨N.out.ok.f, pb.out, ⟨Int.le_of_lt mb.out.1, mb.out.2⟩, N.out.ok.h⟩)
      clear hl tl tm ml
      go_wp2_with fail
      rw [jumps_ret]
      refine bodyPost_ret (results_none rfl _ _ _) rfl ?_
      exact ⟨rfl, W0, w1, v, err, BW.out, V.out, RR.out, by rw [HE.out, tt.out v]; exact X.out.1, O2.out.trans X.out.2⟩
end Go.Proofs.YtknhgfofmkpnfaaGreat.Dma
/- Package dma's contracts. Eng w b s O: the engine in block b has s; O: the blocks that are its own. -/
namespace Go.Proofs.YtknhgfofmkpnfaaGreat.Dma
open Go.RowKit Go.Maps Go.ChangeShapes Go.WideShapes Go.ChangeAt Fifo Orow Word Fmap
set_option linter.unusedVariables false

def Eng (w : World) (b : Nat) (s : En) (O : Nat → Prop) : Prop := EX w b s false (me b) ∧ InvE s ∧ ∀ j, O j ↔ j = b
theorem Eng.only {S O : Nat → Prop} {w w' : World} {b : Nat} {s : En} (h : Eng w b s O) (ho : Only S w w') (hn : ∀ j, O j → ¬ S j) : Eng w' b s O := ⟨h.1.only ho (hn b ((h.2.2 b).2 rfl)), h.2.1, h.2.2⟩
theorem Eng.keep {O : Nat → Prop} {w w' : World} {b : Nat} {s : En} (h : Eng w b s O) (hb : Below w.heap.size w w') : Eng w' b s O := ⟨h.1.keep hb, h.2.1, h.2.2⟩
theorem Eng.lt {O : Nat → Prop} {w : World} {b : Nat} {s : En} (h : Eng w b s O) : ∀ j, O j → j < w.heap.size := fun j hj => by rw [(h.2.2 j).1 hj]; exact h.1.lt
theorem Eng.ok {O : Nat → Prop} {w : World} {b : Nat} {s : En} (h : Eng w b s O) : OkE s ∧ InvE s := ⟨h.1.ok, h.2.1⟩
theorem New_any (w : World) :
    Calls Tryz.prog 49 #[] w fun e w' => (∃ b O, e = .returned (.pointer (some ⟨b, 0, none⟩)) ∧ Eng w' b zeroE O ∧ ∀ j, O j → w.heap.size ≤ j) ∧ Below w.heap.size w w' :=
  (New_any0 w).mono fun _ _ ⟨⟨b, h1, h2, h3⟩, h4⟩ => ⟨⟨b, fun j => j = b, h1, ⟨h2, inv_zero, fun j => Iff.rfl⟩, fun j e => by have e : j = b := e; rw [e]; exact h3⟩, h4⟩
theorem Of_any (s : En) (w : World) (h : OkE s) :
    Calls Tryz.prog 68 #[stE s] w fun e w' => (∃ b O, e = .returned (.pointer (some ⟨b, 0, none⟩)) ∧ Eng w' b (ofE s) O ∧ ∀ j, O j → w.heap.size ≤ j) ∧ Below w.heap.size w w' :=
  (Of_any0 s w h).mono fun _ _ ⟨⟨b, h1, h2, h3⟩, h4⟩ => ⟨⟨b, fun j => j = b, h1, ⟨h2, inv_of s, fun j => Iff.rfl⟩, fun j e => by have e : j = b := e; rw [e]; exact h3⟩, h4⟩
theorem fzero_r (w : World) : (zeroValue 217).run Tryz.prog w = .ok .nilFunc w := by kernel_rfl
theorem fzero_w (w : World) : (zeroValue 180).run Tryz.prog w = .ok .nilFunc w := by kernel_rfl
theorem look_r {w : World} {g b : Nat} (h : FM Tryz.prog 3 .i64 w g (readL b)) (k : Int) (hk : I64 k) : (Instr.lookup 219 (.map (some g)) (.int .i64 k) true).run Tryz.prog w = .ok (.tuple #[(atR (readL b) k).getD .nilFunc, .bool (atR (readL b) k).isSome]) w :=
  h.look keyK Tryz.underlying219 (fzero_r w) k (key_mk k hk)
theorem look_w {w : World} {g b : Nat} (h : FM Tryz.prog 3 .i64 w g (writeL b)) (k : Int) (hk : I64 k) : (Instr.lookup 222 (.map (some g)) (.int .i64 k) true).run Tryz.prog w = .ok (.tuple #[(atR (writeL b) k).getD .nilFunc, .bool (atR (writeL b) k).isSome]) w :=
  h.look keyK Tryz.underlying222 (fzero_w w) k (key_mk k hk)
theorem atR_r {b : Nat} {k : Int} (h0 : ¬ k = 0) (h1 : ¬ k = 1) (h2 : ¬ k = 2) (h3 : ¬ k = 3) : atR (readL b) k = none := by
  simp only [readL, atR]
  rw [if_neg h3, if_neg h2, if_neg h1, if_neg h0]
theorem atR_w {b : Nat} {k : Int} (h0 : ¬ k = 0) (h1 : ¬ k = 1) (h2 : ¬ k = 2) (h3 : ¬ k = 3) (h4 : ¬ k = 4) : atR (writeL b) k = none := by
  simp only [writeL, atR]
  rw [if_neg h4, if_neg h3, if_neg h2, if_neg h1, if_neg h0]
theorem read_0 (v : Value) (s : En) (x : Value) (w : World) (ht : Calls Tryz.prog 70 #[v] w fun e w' => (∃ b, e = .returned (me b) ∧ EX w' b s false x) ∧ Below w.heap.size w w') :
    Calls Tryz.prog 268 #[v, .int .i64 0] w fun e w' => e = .returned (.int .u32 s.F) ∧ Below w.heap.size w w' := by
  have hr : I64 0 := ⟨by decide, by decide⟩
  have T := Lib.hid ht
  have Kr := Lib.hid hr
  clear ht hr
  go_enter Tryz.func268, Tryz.ntmps268
  go_wp2_with fail
  refine T.out.mono ?_
  rintro e w1 ⟨⟨b, rfl, h1⟩, hb1⟩
  have T1 := Lib.hid h1
  have B1 := Lib.hid hb1
  clear h1 hb1
  go_wp2_with fail
  refine (reads_any b w1).mono ?_
  rintro e w2 ⟨⟨g, rfl, hm⟩, hb⟩
  have T2 := Lib.hid (T1.out.keep hb)
  have B2 := Lib.hid (B1.out.trans (hb.mono B1.out.size))
  have lk := look_r hm _ Kr.out
  clear hm hb
  rw [show atR (readL b) 0 = some (meth 273 b) from rfl] at lk
  simp only [Option.getD_some, Option.isSome_some, meth] at lk
  go_wp2_with fail
  refine (fromNow_any b s false x w2 T2.out).mono ?_
  rintro e w3 ⟨rfl, rfl⟩
  go_wp2_with fail
  go_ret
  exact ⟨rfl, B2.out⟩
theorem read_1 (v : Value) (s : En) (x : Value) (w : World) (ht : Calls Tryz.prog 70 #[v] w fun e w' => (∃ b, e = .returned (me b) ∧ EX w' b s false x) ∧ Below w.heap.size w w') :
    Calls Tryz.prog 268 #[v, .int .i64 1] w fun e w' => e = .returned (.int .u32 s.T) ∧ Below w.heap.size w w' := by
  have hr : I64 1 := ⟨by decide, by decide⟩
  have T := Lib.hid ht
  have Kr := Lib.hid hr
  clear ht hr
  go_enter Tryz.func268, Tryz.ntmps268
  go_wp2_with fail
  refine T.out.mono ?_
  rintro e w1 ⟨⟨b, rfl, h1⟩, hb1⟩
  have T1 := Lib.hid h1
  have B1 := Lib.hid hb1
  clear h1 hb1
  go_wp2_with fail
  refine (reads_any b w1).mono ?_
  rintro e w2 ⟨⟨g, rfl, hm⟩, hb⟩
  have T2 := Lib.hid (T1.out.keep hb)
  have B2 := Lib.hid (B1.out.trans (hb.mono B1.out.size))
  have lk := look_r hm _ Kr.out
  clear hm hb
  rw [show atR (readL b) 1 = some (meth 274 b) from rfl] at lk
  simp only [Option.getD_some, Option.isSome_some, meth] at lk
  go_wp2_with fail
  refine (toNow_any b s false x w2 T2.out).mono ?_
  rintro e w3 ⟨rfl, rfl⟩
  go_wp2_with fail
  go_ret
  exact ⟨rfl, B2.out⟩
theorem read_2 (v : Value) (s : En) (x : Value) (w : World) (ht : Calls Tryz.prog 70 #[v] w fun e w' => (∃ b, e = .returned (me b) ∧ EX w' b s false x) ∧ Below w.heap.size w w') :
    Calls Tryz.prog 268 #[v, .int .i64 2] w fun e w' => e = .returned (.int .u32 s.L) ∧ Below w.heap.size w w' := by
  have hr : I64 2 := ⟨by decide, by decide⟩
  have T := Lib.hid ht
  have Kr := Lib.hid hr
  clear ht hr
  go_enter Tryz.func268, Tryz.ntmps268
  go_wp2_with fail
  refine T.out.mono ?_
  rintro e w1 ⟨⟨b, rfl, h1⟩, hb1⟩
  have T1 := Lib.hid h1
  have B1 := Lib.hid hb1
  clear h1 hb1
  go_wp2_with fail
  refine (reads_any b w1).mono ?_
  rintro e w2 ⟨⟨g, rfl, hm⟩, hb⟩
  have T2 := Lib.hid (T1.out.keep hb)
  have B2 := Lib.hid (B1.out.trans (hb.mono B1.out.size))
  have lk := look_r hm _ Kr.out
  clear hm hb
  rw [show atR (readL b) 2 = some (meth 275 b) from rfl] at lk
  simp only [Option.getD_some, Option.isSome_some, meth] at lk
  go_wp2_with fail
  refine (leftNow_any b s false x w2 T2.out).mono ?_
  rintro e w3 ⟨rfl, rfl⟩
  go_wp2_with fail
  go_ret
  exact ⟨rfl, B2.out⟩
theorem read_3 (v : Value) (s : En) (x : Value) (w : World) (ht : Calls Tryz.prog 70 #[v] w fun e w' => (∃ b, e = .returned (me b) ∧ EX w' b s false x) ∧ Below w.heap.size w w') :
    Calls Tryz.prog 268 #[v, .int .i64 3] w fun e w' => e = .returned (.int .u32 (bitV s.busy 1 + bitV s.den 2 + bitV s.don 4 + bitV s.cal 256)) ∧ Below w.heap.size w w' := by
  have hr : I64 3 := ⟨by decide, by decide⟩
  have T := Lib.hid ht
  have Kr := Lib.hid hr
  clear ht hr
  go_enter Tryz.func268, Tryz.ntmps268
  go_wp2_with fail
  refine T.out.mono ?_
  rintro e w1 ⟨⟨b, rfl, h1⟩, hb1⟩
  have T1 := Lib.hid h1
  have B1 := Lib.hid hb1
  clear h1 hb1
  go_wp2_with fail
  refine (reads_any b w1).mono ?_
  rintro e w2 ⟨⟨g, rfl, hm⟩, hb⟩
  have T2 := Lib.hid (T1.out.keep hb)
  have B2 := Lib.hid (B1.out.trans (hb.mono B1.out.size))
  have lk := look_r hm _ Kr.out
  clear hm hb
  rw [show atR (readL b) 3 = some (meth 276 b) from rfl] at lk
  simp only [Option.getD_some, Option.isSome_some, meth] at lk
  go_wp2_with fail
  refine (ctrlNow_any b s false x w2 T2.out).mono ?_
  rintro e w3 ⟨rfl, rfl⟩
  go_wp2_with fail
  go_ret
  exact ⟨rfl, B2.out⟩
theorem read_none (v : Value) (s : En) (x : Value) (reg : Int) (w : World) (hr : I64 reg) (h0 : ¬ reg = 0) (h1 : ¬ reg = 1) (h2 : ¬ reg = 2) (h3 : ¬ reg = 3) (ht : Calls Tryz.prog 70 #[v] w fun e w' => (∃ b, e = .returned (me b) ∧ EX w' b s false x) ∧ Below w.heap.size w w') :
    Calls Tryz.prog 268 #[v, .int .i64 reg] w fun e w' => e = .returned (.int .u32 0) ∧ Below w.heap.size w w' := by
  have E := Lib.hid (fun b => atR_r (b := b) h0 h1 h2 h3)
  clear h0 h1 h2 h3
  have T := Lib.hid ht
  have Kr := Lib.hid hr
  clear ht hr
  go_enter Tryz.func268, Tryz.ntmps268
  go_wp2_with fail
  refine T.out.mono ?_
  rintro e w1 ⟨⟨b, rfl, h1⟩, hb1⟩
  have T1 := Lib.hid h1
  have B1 := Lib.hid hb1
  clear h1 hb1
  go_wp2_with fail
  refine (reads_any b w1).mono ?_
  rintro e w2 ⟨⟨g, rfl, hm⟩, hb⟩
  have T2 := Lib.hid (T1.out.keep hb)
  have B2 := Lib.hid (B1.out.trans (hb.mono B1.out.size))
  have lk := look_r hm _ Kr.out
  clear hm hb
  rw [E.out b] at lk
  simp only [Option.getD_none, Option.isSome_none] at lk
  go_wp2_with fail
  go_ret
  exact ⟨rfl, B2.out⟩
theorem read_q (v : Value) (s : En) (x : Value) (reg : Int) (w : World) (hr : I64 reg) (ht : Calls Tryz.prog 70 #[v] w fun e w' => (∃ b, e = .returned (me b) ∧ EX w' b s false x) ∧ Below w.heap.size w w') :
    Calls Tryz.prog 268 #[v, .int .i64 reg] w fun e w' => e = .returned (.int .u32 (readE s reg)) ∧ Below w.heap.size w w' := by
  unfold readE
  by_cases h0 : reg = 0
  · subst h0
    rw [if_pos rfl]
    exact read_0 v s x w ht
  rw [if_neg h0]
  by_cases h1 : reg = 1
  · subst h1
    rw [if_pos rfl]
    exact read_1 v s x w ht
  rw [if_neg h1]
  by_cases h2 : reg = 2
  · subst h2
    rw [if_pos rfl]
    exact read_2 v s x w ht
  rw [if_neg h2]
  by_cases h3 : reg = 3
  · subst h3
    rw [if_pos rfl]
    exact read_3 v s x w ht
  rw [if_neg h3]
  exact read_none v s x reg w hr h0 h1 h2 h3 ht
theorem write_0 (v : Value) (s : En) (x : Value) (n : Int) (G : Nat → Prop) (w : World) (hn : 0 ≤ n ∧ n < 4294967296) (hi : InvE s) (ht : Calls Tryz.prog 70 #[v] w fun e w' => (∃ b, e = .returned (me b) ∧ EX w' b s false x ∧ G b) ∧ Below w.heap.size w w') :
    Calls Tryz.prog 269 #[v, .int .i64 0, .int .u32 n] w fun e w' => e = .returned (.tuple #[]) ∧ ∃ b, G b ∧ EX w' b (writeE s 0 n) false x ∧ Only (fun j => j = b) w w' := by
  have hr : I64 0 := ⟨by decide, by decide⟩
  have T := Lib.hid ht
  have Kr := Lib.hid hr
  have HN := Lib.hid hn
  have HI := Lib.hid hi
  clear ht hr hn hi
  go_enter Tryz.func269, Tryz.ntmps269
  go_wp2_with fail
  refine T.out.mono ?_
  rintro e w1 ⟨⟨b, rfl, h1, h2⟩, hb1⟩
  have T1 := Lib.hid h1
  have HG := Lib.hid h2
  have B1 := Lib.hid hb1
  clear h1 h2 hb1
  go_wp2_with fail
  refine (writes_any b w1).mono ?_
  rintro e w2 ⟨⟨g, rfl, hm⟩, hb⟩
  have T2 := Lib.hid (T1.out.keep hb)
  have B2 := Lib.hid (B1.out.trans (hb.mono B1.out.size))
  have lk := look_w hm _ Kr.out
  clear hm hb
  rw [show atR (writeL b) 0 = some (meth 277 b) from rfl] at lk
  simp only [Option.getD_some, Option.isSome_some, meth] at lk
  go_wp2_with fail
  refine (setFrom_any b s false x n w2 HN.out T2.out).mono ?_
  rintro e w3 ⟨rfl, h3, h4⟩
  have R := Lib.hid (And.intro h3 (show Only (fun j => j = b) w w3 from (Only.of_below B2.out).trans h4))
  clear h3 h4
  go_wp2_with fail
  go_end0
  exact ⟨rfl, b, HG.out, R.out⟩
theorem write_1 (v : Value) (s : En) (x : Value) (n : Int) (G : Nat → Prop) (w : World) (hn : 0 ≤ n ∧ n < 4294967296) (hi : InvE s) (ht : Calls Tryz.prog 70 #[v] w fun e w' => (∃ b, e = .returned (me b) ∧ EX w' b s false x ∧ G b) ∧ Below w.heap.size w w') :
    Calls Tryz.prog 269 #[v, .int .i64 1, .int .u32 n] w fun e w' => e = .returned (.tuple #[]) ∧ ∃ b, G b ∧ EX w' b (writeE s 1 n) false x ∧ Only (fun j => j = b) w w' := by
  have hr : I64 1 := ⟨by decide, by decide⟩
  have T := Lib.hid ht
  have Kr := Lib.hid hr
  have HN := Lib.hid hn
  have HI := Lib.hid hi
  clear ht hr hn hi
  go_enter Tryz.func269, Tryz.ntmps269
  go_wp2_with fail
  refine T.out.mono ?_
  rintro e w1 ⟨⟨b, rfl, h1, h2⟩, hb1⟩
  have T1 := Lib.hid h1
  have HG := Lib.hid h2
  have B1 := Lib.hid hb1
  clear h1 h2 hb1
  go_wp2_with fail
  refine (writes_any b w1).mono ?_
  rintro e w2 ⟨⟨g, rfl, hm⟩, hb⟩
  have T2 := Lib.hid (T1.out.keep hb)
  have B2 := Lib.hid (B1.out.trans (hb.mono B1.out.size))
  have lk := look_w hm _ Kr.out
  clear hm hb
  rw [show atR (writeL b) 1 = some (meth 278 b) from rfl] at lk
  simp only [Option.getD_some, Option.isSome_some, meth] at lk
  go_wp2_with fail
  refine (setTo_any b s false x n w2 HN.out T2.out).mono ?_
  rintro e w3 ⟨rfl, h3, h4⟩
  have R := Lib.hid (And.intro h3 (show Only (fun j => j = b) w w3 from (Only.of_below B2.out).trans h4))
  clear h3 h4
  go_wp2_with fail
  go_end0
  exact ⟨rfl, b, HG.out, R.out⟩
theorem write_2 (v : Value) (s : En) (x : Value) (n : Int) (G : Nat → Prop) (w : World) (hn : 0 ≤ n ∧ n < 4294967296) (hi : InvE s) (ht : Calls Tryz.prog 70 #[v] w fun e w' => (∃ b, e = .returned (me b) ∧ EX w' b s false x ∧ G b) ∧ Below w.heap.size w w') :
    Calls Tryz.prog 269 #[v, .int .i64 2, .int .u32 n] w fun e w' => e = .returned (.tuple #[]) ∧ ∃ b, G b ∧ EX w' b (writeE s 2 n) false x ∧ Only (fun j => j = b) w w' := by
  have hr : I64 2 := ⟨by decide, by decide⟩
  have T := Lib.hid ht
  have Kr := Lib.hid hr
  have HN := Lib.hid hn
  have HI := Lib.hid hi
  clear ht hr hn hi
  go_enter Tryz.func269, Tryz.ntmps269
  go_wp2_with fail
  refine T.out.mono ?_
  rintro e w1 ⟨⟨b, rfl, h1, h2⟩, hb1⟩
  have T1 := Lib.hid h1
  have HG := Lib.hid h2
  have B1 := Lib.hid hb1
  clear h1 h2 hb1
  go_wp2_with fail
  refine (writes_any b w1).mono ?_
  rintro e w2 ⟨⟨g, rfl, hm⟩, hb⟩
  have T2 := Lib.hid (T1.out.keep hb)
  have B2 := Lib.hid (B1.out.trans (hb.mono B1.out.size))
  have lk := look_w hm _ Kr.out
  clear hm hb
  rw [show atR (writeL b) 2 = some (meth 279 b) from rfl] at lk
  simp only [Option.getD_some, Option.isSome_some, meth] at lk
  go_wp2_with fail
  refine (setLeft_any b s false x n w2 HN.out T2.out).mono ?_
  rintro e w3 ⟨rfl, h3, h4⟩
  have R := Lib.hid (And.intro h3 (show Only (fun j => j = b) w w3 from (Only.of_below B2.out).trans h4))
  clear h3 h4
  go_wp2_with fail
  go_end0
  exact ⟨rfl, b, HG.out, R.out⟩
theorem write_3 (v : Value) (s : En) (x : Value) (n : Int) (G : Nat → Prop) (w : World) (hn : 0 ≤ n ∧ n < 4294967296) (hi : InvE s) (ht : Calls Tryz.prog 70 #[v] w fun e w' => (∃ b, e = .returned (me b) ∧ EX w' b s false x ∧ G b) ∧ Below w.heap.size w w') :
    Calls Tryz.prog 269 #[v, .int .i64 3, .int .u32 n] w fun e w' => e = .returned (.tuple #[]) ∧ ∃ b, G b ∧ EX w' b (writeE s 3 n) false x ∧ Only (fun j => j = b) w w' := by
  have hr : I64 3 := ⟨by decide, by decide⟩
  have T := Lib.hid ht
  have Kr := Lib.hid hr
  have HN := Lib.hid hn
  have HI := Lib.hid hi
  clear ht hr hn hi
  go_enter Tryz.func269, Tryz.ntmps269
  go_wp2_with fail
  refine T.out.mono ?_
  rintro e w1 ⟨⟨b, rfl, h1, h2⟩, hb1⟩
  have T1 := Lib.hid h1
  have HG := Lib.hid h2
  have B1 := Lib.hid hb1
  clear h1 h2 hb1
  go_wp2_with fail
  refine (writes_any b w1).mono ?_
  rintro e w2 ⟨⟨g, rfl, hm⟩, hb⟩
  have T2 := Lib.hid (T1.out.keep hb)
  have B2 := Lib.hid (B1.out.trans (hb.mono B1.out.size))
  have lk := look_w hm _ Kr.out
  clear hm hb
  rw [show atR (writeL b) 3 = some (meth 280 b) from rfl] at lk
  simp only [Option.getD_some, Option.isSome_some, meth] at lk
  go_wp2_with fail
  refine (setCtrl_any b s false x n w2 HN.out HI.out T2.out).mono ?_
  rintro e w3 ⟨rfl, h3, h4⟩
  have R := Lib.hid (And.intro h3 (show Only (fun j => j = b) w w3 from (Only.of_below B2.out).trans h4))
  clear h3 h4
  go_wp2_with fail
  go_end0
  exact ⟨rfl, b, HG.out, R.out⟩
theorem write_4 (v : Value) (s : En) (x : Value) (n : Int) (G : Nat → Prop) (w : World) (hn : 0 ≤ n ∧ n < 4294967296) (hi : InvE s) (ht : Calls Tryz.prog 70 #[v] w fun e w' => (∃ b, e = .returned (me b) ∧ EX w' b s false x ∧ G b) ∧ Below w.heap.size w w') :
    Calls Tryz.prog 269 #[v, .int .i64 4, .int .u32 n] w fun e w' => e = .returned (.tuple #[]) ∧ ∃ b, G b ∧ EX w' b (writeE s 4 n) false x ∧ Only (fun j => j = b) w w' := by
  have hr : I64 4 := ⟨by decide, by decide⟩
  have T := Lib.hid ht
  have Kr := Lib.hid hr
  have HN := Lib.hid hn
  have HI := Lib.hid hi
  clear ht hr hn hi
  go_enter Tryz.func269, Tryz.ntmps269
  go_wp2_with fail
  refine T.out.mono ?_
  rintro e w1 ⟨⟨b, rfl, h1, h2⟩, hb1⟩
  have T1 := Lib.hid h1
  have HG := Lib.hid h2
  have B1 := Lib.hid hb1
  clear h1 h2 hb1
  go_wp2_with fail
  refine (writes_any b w1).mono ?_
  rintro e w2 ⟨⟨g, rfl, hm⟩, hb⟩
  have T2 := Lib.hid (T1.out.keep hb)
  have B2 := Lib.hid (B1.out.trans (hb.mono B1.out.size))
  have lk := look_w hm _ Kr.out
  clear hm hb
  rw [show atR (writeL b) 4 = some (meth 281 b) from rfl] at lk
  simp only [Option.getD_some, Option.isSome_some, meth] at lk
  go_wp2_with fail
  refine (forget_any b s false x n w2 HN.out T2.out).mono ?_
  rintro e w3 ⟨rfl, h3, h4⟩
  have R := Lib.hid (And.intro h3 (show Only (fun j => j = b) w w3 from (Only.of_below B2.out).trans h4))
  clear h3 h4
  go_wp2_with fail
  go_end0
  exact ⟨rfl, b, HG.out, R.out⟩
theorem write_none (v : Value) (s : En) (x : Value) (reg : Int) (n : Int) (G : Nat → Prop) (w : World) (hr : I64 reg) (h0 : ¬ reg = 0) (h1 : ¬ reg = 1) (h2 : ¬ reg = 2) (h3 : ¬ reg = 3) (h4 : ¬ reg = 4) (hn : 0 ≤ n ∧ n < 4294967296) (hi : InvE s) (ht : Calls Tryz.prog 70 #[v] w fun e w' => (∃ b, e = .returned (me b) ∧ EX w' b s false x ∧ G b) ∧ Below w.heap.size w w') :
    Calls Tryz.prog 269 #[v, .int .i64 reg, .int .u32 n] w fun e w' => e = .returned (.tuple #[]) ∧ ∃ b, G b ∧ EX w' b s false x ∧ Only (fun j => j = b) w w' := by
  have E := Lib.hid (fun b => atR_w (b := b) h0 h1 h2 h3 h4)
  clear h0 h1 h2 h3 h4
  have T := Lib.hid ht
  have Kr := Lib.hid hr
  have HN := Lib.hid hn
  have HI := Lib.hid hi
  clear ht hr hn hi
  go_enter Tryz.func269, Tryz.ntmps269
  go_wp2_with fail
  refine T.out.mono ?_
  rintro e w1 ⟨⟨b, rfl, h1, h2⟩, hb1⟩
  have T1 := Lib.hid h1
  have HG := Lib.hid h2
  have B1 := Lib.hid hb1
  clear h1 h2 hb1
  go_wp2_with fail
  refine (writes_any b w1).mono ?_
  rintro e w2 ⟨⟨g, rfl, hm⟩, hb⟩
  have T2 := Lib.hid (T1.out.keep hb)
  have B2 := Lib.hid (B1.out.trans (hb.mono B1.out.size))
  have lk := look_w hm _ Kr.out
  clear hm hb
  rw [E.out b] at lk
  simp only [Option.getD_none, Option.isSome_none] at lk
  go_wp2_with fail
  go_end0
  exact ⟨rfl, b, HG.out, T2.out, Only.of_below B2.out⟩
theorem write_q (v : Value) (s : En) (x : Value) (reg n : Int) (G : Nat → Prop) (w : World) (hr : I64 reg) (hn : 0 ≤ n ∧ n < 4294967296) (hi : InvE s) (ht : Calls Tryz.prog 70 #[v] w fun e w' => (∃ b, e = .returned (me b) ∧ EX w' b s false x ∧ G b) ∧ Below w.heap.size w w') :
    Calls Tryz.prog 269 #[v, .int .i64 reg, .int .u32 n] w fun e w' => e = .returned (.tuple #[]) ∧ ∃ b, G b ∧ EX w' b (writeE s reg n) false x ∧ Only (fun j => j = b) w w' := by
  by_cases h0 : reg = 0
  · subst h0
    exact write_0 v s x n G w hn hi ht
  by_cases h1 : reg = 1
  · subst h1
    exact write_1 v s x n G w hn hi ht
  by_cases h2 : reg = 2
  · subst h2
    exact write_2 v s x n G w hn hi ht
  by_cases h3 : reg = 3
  · subst h3
    exact write_3 v s x n G w hn hi ht
  by_cases h4 : reg = 4
  · subst h4
    exact write_4 v s x n G w hn hi ht
  rw [show writeE s reg n = s by unfold writeE; rw [if_neg h0, if_neg h1, if_neg h2, if_neg h3, if_neg h4]]
  exact write_none v s x reg n G w hr h0 h1 h2 h3 h4 hn hi ht
theorem line_q (v : Value) (s : En) (x : Value) (w : World) (ht : Calls Tryz.prog 70 #[v] w fun e w' => (∃ b, e = .returned (me b) ∧ EX w' b s false x) ∧ Below w.heap.size w w') :
    Calls Tryz.prog 289 #[v] w fun e w' => e = .returned (.bool (lineE s)) ∧ Below w.heap.size w w' := by
  have T := Lib.hid ht
  clear ht
  go_enter Tryz.func289, Tryz.ntmps289
  go_wp2_with fail
  refine T.out.mono ?_
  rintro e w1 ⟨⟨b, rfl, h1⟩, hb1⟩
  have T1 := Lib.hid h1
  have B1 := Lib.hid hb1
  clear h1 hb1
  go_wp2_with fail
  refine (line_any b s false x w1 T1.out).mono ?_
  rintro e w3 ⟨rfl, rfl⟩
  go_wp2_with fail
  go_ret
  exact ⟨rfl, B1.out⟩
theorem state_q (v : Value) (s : En) (x : Value) (w : World) (ht : ∀ W, Below w.heap.size w W → Calls Tryz.prog 70 #[v] W fun e w' => (∃ b, e = .returned (me b) ∧ EX w' b s false x) ∧ Below W.heap.size W w') :
    Calls Tryz.prog 288 #[v] w fun e w' => e = .returned (stE s) ∧ Below w.heap.size w w' := by
  have T := Lib.hid ht
  clear ht
  obtain ⟨g, hg⟩ : ∃ g, w.heap.size = g := ⟨_, rfl⟩
  have HG := Lib.hid hg
  go_enter Tryz.func288, Tryz.ntmps288
  go_wp2_with fail
  refine calls_letter ?_
  intro W hW
  have B0 := Lib.hid (show Below w.heap.size w W by rw [hW.out]; exact (Below.refl _ _).alloc (Nat.le_refl _) _)
  have Z := Lib.hid (show Blk W g 137 zcells by rw [hW.out, ← HG.out]; exact Blk.new w _ _)
  clear hW hg
  refine (T.out W B0.out).mono ?_
  rintro e w1 ⟨⟨b, rfl, h1⟩, hb1⟩
  have T1 := Lib.hid h1
  have B1 := Lib.hid (B0.out.trans (hb1.mono B0.out.size))
  have Z1 := Lib.hid (Z.out.keep hb1)
  clear h1 hb1
  go_wp2_with fail
  refine (told_any b s false x w1 T1.out).mono ?_
  rintro e w2 ⟨rfl, hb⟩
  have B2 := Lib.hid (B1.out.trans (hb.mono B1.out.size))
  have Z2 := Lib.hid (Z1.out.keep hb)
  clear hb
  go_wp2_with (with_reducible refine at_store _ _ _ rfl ?_)
  refine Lib.hid ?_
  refine store_all rfl _ _ _ rfl g (cellsE s) rfl rfl 137 _ Z2.out (by kernel_rfl) rfl (by simp [Value.oneCell']) ?_
  intro Y hY hoY
  have R := Lib.hid hY
  have O := Lib.hid (show Below g w Y by
    have B := B2.out
    rw [HG.out] at B
    exact B.trans (hoY.below (Nat.le_of_lt Z2.out.lt) (fun k e => by have : k = g := e; omega)))
  clear hY hoY
  have r0 := R.out.at 0 rfl
  have r1 := R.out.at 1 rfl
  have r2 := R.out.at 2 rfl
  have r3 := R.out.at 3 rfl
  have r4 := R.out.at 4 rfl
  have r5 := R.out.at 5 rfl
  have r6 := R.out.at 6 rfl
  have r7 := R.out.at 7 rfl
  have r8 := R.out.at 8 rfl
  go_wp2_with fail
  refine bodyPost_ret (v := stE s) ?_ rfl ⟨rfl, by rw [HG.out]; exact O.out⟩
  simp [results, Tryz.results288, go_sem, r0, r1, r2, r3, r4, r5, r6, r7, r8]
theorem yes {w : World} {b : Nat} {s : En} {O : Nat → Prop} (h : Eng w b s O) :
    Calls Tryz.prog 70 #[me b] w fun e w' => (∃ c, e = .returned (me c) ∧ EX w' c s false (me b) ∧ c = b) ∧ Below w.heap.size w w' := by
  refine (engine_yes b w (h.1.c 10 rfl)).mono ?_
  rintro e w' ⟨rfl, rfl⟩
  exact ⟨⟨b, rfl, h.1, rfl⟩, Below.refl _ _⟩
theorem weak {v : Value} {s : En} {x : Value} {G : Nat → Prop} {w : World} (h : Calls Tryz.prog 70 #[v] w fun e w' => (∃ b, e = .returned (me b) ∧ EX w' b s false x ∧ G b) ∧ Below w.heap.size w w') :
    Calls Tryz.prog 70 #[v] w fun e w' => (∃ b, e = .returned (me b) ∧ EX w' b s false x) ∧ Below w.heap.size w w' :=
  h.mono fun _ _ ⟨⟨b, h1, h2, _⟩, h3⟩ => ⟨⟨b, h1, h2⟩, h3⟩
theorem Read_any (b : Nat) (s : En) (O : Nat → Prop) (reg : Int) (w : World) (h1 : I64 reg) (h : Eng w b s O) :
    Calls Tryz.prog 268 #[.pointer (some ⟨b, 0, none⟩), .int .i64 reg] w fun e w' => e = .returned (.int .u32 (readE s reg)) ∧ Below w.heap.size w w' :=
  read_q _ s (me b) reg w h1 (weak (yes h))
theorem Write_any (b : Nat) (s : En) (O : Nat → Prop) (reg v : Int) (w : World) (h1 : I64 reg) (h2 : 0 ≤ v ∧ v < 4294967296) (h : Eng w b s O) :
    Calls Tryz.prog 269 #[.pointer (some ⟨b, 0, none⟩), .int .i64 reg, .int .u32 v] w fun e w' => e = .returned (.tuple #[]) ∧ ∃ O', Eng w' b (writeE s reg v) O' ∧ Only O w w' ∧ ∀ j, O' j → O j ∨ w.heap.size ≤ j := by
  refine (write_q _ s (me b) reg v (fun k => k = b) w h1 h2 h.2.1 (yes h)).mono ?_
  rintro e w' ⟨rfl, k, hk, a1, a2⟩
  have hk : k = b := hk
  subst hk
  exact ⟨rfl, O, ⟨a1, inv_write h.2.1 reg v, h.2.2⟩, a2.mono (fun j _ e => (h.2.2 j).2 e), fun j hj => .inl hj⟩
theorem Line_any (b : Nat) (s : En) (O : Nat → Prop) (w : World) (h : Eng w b s O) :
    Calls Tryz.prog 289 #[.pointer (some ⟨b, 0, none⟩)] w fun e w' => e = .returned (.bool (lineE s)) ∧ Below w.heap.size w w' :=
  line_q _ s (me b) w (weak (yes h))
theorem State_any (b : Nat) (s : En) (O : Nat → Prop) (w : World) (h : Eng w b s O) :
    Calls Tryz.prog 288 #[.pointer (some ⟨b, 0, none⟩)] w fun e w' => e = .returned (stE s) ∧ Below w.heap.size w w' :=
  state_q _ s (me b) w (fun W hW => weak (yes (h.keep hW)))
theorem fn_nil (g : Nat) (rv lb : Array Value) (w : World) : (binOp .eql 61 (.func (.func g) rv lb) .nilFunc).run Tryz.prog w = .ok (.bool false) w := by
  have h : ∀ d : Nat, (Op.equalIn (d + 1) 61 (.func (.func g) rv lb) .nilFunc).run Tryz.prog w = .ok false w := fun d => by
    simp [Op.equalIn, run_underlying Tryz.underlying61]
  simp only [binOp]
  simp [Op.equal, Op.maxDepth, h 9999]
theorem nil_nil (w : World) : (binOp .eql 61 .nilFunc .nilFunc).run Tryz.prog w = .ok (.bool true) w := by
  have h : ∀ d : Nat, (Op.equalIn (d + 1) 61 .nilFunc .nilFunc).run Tryz.prog w = .ok true w := fun d => by
    simp [Op.equalIn, run_underlying Tryz.underlying61]
  simp only [binOp]
  simp [Op.equal, Op.maxDepth, h 9999]
theorem idle_q (v : Value) (s : En) (x : Value) (world : Int) (f : Value) (w : World) (hf : f = .nilFunc ∨ (s.busy = false ∧ ∃ g rv lb, f = .func (.func g) rv lb)) (ht : Calls Tryz.prog 70 #[v] w fun e w' => (∃ b, e = .returned (me b) ∧ EX w' b s false x) ∧ Below w.heap.size w w') :
    Calls Tryz.prog 51 #[v, .int .i64 world, f] w fun e w' => e = .returned (.bool false) ∧ Below w.heap.size w w' := by
  have T := Lib.hid ht
  clear ht
  have hn := nil_nil
  obtain ⟨F, T0, L, H, has, busy, den, don, cal⟩ := s
  rcases hf with rfl | ⟨hb, g, rv, lb, rfl⟩
  · cases busy
    all_goals
      go_enter Tryz.func51, Tryz.ntmps51
      go_wp2_with fail
      refine T.out.mono ?_
      rintro e w1 ⟨⟨b, rfl, h1⟩, hb1⟩
      have B1 := Lib.hid hb1
      have c5 := h1.c 5 rfl
      have c9 := h1.c 9 rfl
      clear h1 hb1
      go_wp2_with fail
      go_ret
      exact ⟨rfl, B1.out⟩
  · have hb : busy = false := hb
    subst hb
    go_enter Tryz.func51, Tryz.ntmps51
    go_wp2_with fail
    refine T.out.mono ?_
    rintro e w1 ⟨⟨b, rfl, h1⟩, hb1⟩
    have B1 := Lib.hid hb1
    have c5 := h1.c 5 rfl
    have c9 := h1.c 9 rfl
    clear h1 hb1
    go_wp2_with fail
    go_ret
    exact ⟨rfl, B1.out⟩
theorem Step_idle (b : Nat) (s : En) (O : Nat → Prop) (world : Int) (f : Value) (w : World) (h1 : I64 world) (h : Eng w b s O) (hf : f = .nilFunc ∨ (s.busy = false ∧ ∃ g rv lb, f = .func (.func g) rv lb)) :
    Calls Tryz.prog 51 #[.pointer (some ⟨b, 0, none⟩), .int .i64 world, f] w fun e w' => e = .returned (.bool false) ∧ Below w.heap.size w w' :=
  idle_q _ s (me b) world f w hf (weak (yes h))
theorem step_any (b : Nat) (s : En) (x : Value) (ga : Nat) (la : Array Value) (eg : ∀ args w, (callFunc ga args).run Tryz.prog w = .ok (.enter ga args) w) (R : World → Int → Int → World → Prop) (w : World) (hb : s.busy = true)
    (h : EX w b s false x) (hq : ∀ W, Below w.heap.size w W → Calls Tryz.prog ga (#[.bool s.has, .int .u32 (if s.has then s.T else s.F), .int .u32 (if s.has then s.H else 0)] ++ la) W fun e w' => ∃ v err, e = .returned (.tuple #[.int .u32 v, .bool (err == 0)]) ∧ (0 ≤ v ∧ v < 4294967296) ∧ R W v err w' ∧ EX w' b s false x) :
    Calls Tryz.prog 71 #[me b, .func (.func ga) #[] la] w fun e w' => e = .returned (.tuple #[]) ∧ Stepped R b s x w w' := by
  obtain ⟨F, T, L, H, has, busy, den, don, cal⟩ := s
  have hb : busy = true := hb
  subst hb
  cases has
  · have hH : H = 0 ∨ True := .inr trivial
    exact step_read b F T L H den don cal x ga la eg R w h hq
  · exact step_write b F T L H den don cal x ga la eg R w h hq
/-- What the asker left, behind the mark. -/
def Asked (S : Nat → Prop) (T : World → Int → Int → World → Prop) (b : Nat) (W : World) (v err : Int) (w' : World) : Prop :=
  ∃ W1, I64 err ∧ T (W.setCell ⟨b, 9, none⟩ (.bool true)) v err W1 ∧ Only S (W.setCell ⟨b, 9, none⟩ (.bool true)) W1 ∧ Only (fun j => j = b) W1 w'
/-- A step of one that is busy: W: the world in which it asks; W1: that in which it is answered; T: what the asker leaves; S: the blocks that the asker may turn. -/
theorem Step_busy (b : Nat) (s : En) (O : Nat → Prop) (world : Int) (g : Nat) (rv lb : Array Value) (S : Nat → Prop) (T : World → Int → Int → World → Prop) (w : World) (h1 : I64 world) (h : Eng w b s O) (hb : s.busy = true)
    (hS : ∀ j, S j → ¬ O j ∧ j < w.heap.size) (eg : ∀ args w, (callFunc g args).run Tryz.prog w = .ok (.enter g args) w)
    (ha : ∀ W, Only O w W → Calls Tryz.prog g (rv ++ #[nextE s world] ++ lb) W fun e w' => ∃ v err, e = .returned (.agg #[.int .u32 v, .int .i64 err]) ∧ (0 ≤ v ∧ v < 4294967296) ∧ I64 err ∧ T W v err w' ∧ Only S W w') :
    Calls Tryz.prog 51 #[.pointer (some ⟨b, 0, none⟩), .int .i64 world, .func (.func g) rv lb] w fun e w' => e = .returned (.bool true) ∧ ∃ v err W W1 O', (0 ≤ v ∧ v < 4294967296) ∧ I64 err ∧ Only O w W ∧ T W v err W1 ∧ Only S W W1 ∧ Only (fun j => O j ∨ (w.heap.size ≤ j ∧ j < W.heap.size)) W1 w' ∧ Eng w' b (toldE s v err) O' ∧ ∀ j, O' j → O j ∨ (w.heap.size ≤ j ∧ j < W.heap.size) ∨ W1.heap.size ≤ j := by
  have Y := Lib.hid (yes h)
  have hlt := h.1.lt
  have OB := Lib.hid ((h.2.2 b).2 rfl)
  -- behind the asker: what a step leaves
  have G := Lib.hid (show ∀ w2 pe pa pw, Below w.heap.size w w2 → Box w2 pe (me b) → Box w2 pa (.func (.func g) rv lb) → Box w2 pw (.int .i64 world) → w.heap.size ≤ pe → w.heap.size ≤ pa → w.heap.size ≤ pw →
      Calls Tryz.prog 71 #[me b, .func (.func 93) #[] #[me pe, me pa, me pw]] w2 fun e w' => e = .returned (.tuple #[]) ∧ Stepped (Asked S T b) b s (me b) w2 w' by
    intro w2 pe pa pw hw2 he hp hpw l1 l2 l3
    refine step_any b s (me b) _ _ (enters_of Tryz.func93 (by kernel_rfl) rfl) _ w2 hb (h.1.keep hw2) (fun W hW => ?_)
    have BW : Below w.heap.size w W := hw2.trans (hW.mono hw2.size)
    have hE := h.1.keep BW
    have hne : ∀ p, w.heap.size ≤ p → p ≠ b := fun p hp e => by omega
    have OM : Only O w (W.setCell ⟨b, 9, none⟩ (.bool true)) := (Only.of_below BW).setCell (p := ⟨b, 9, none⟩) OB.out _
    have key := asks_any b s (me b) pe pa pw g rv lb world S (fun v err w' => (0 ≤ v ∧ v < 4294967296) ∧ I64 err ∧ T (W.setCell ⟨b, 9, none⟩ (.bool true)) v err w') s.has (if s.has then s.T else s.F) (if s.has then s.H else 0) W hE (he.keep hW) (hp.keep hW) (hpw.keep hW)
      ⟨hne _ l1, hne _ l2, hne _ l3⟩ (fun j hj => ⟨fun e => (hS j hj).1 ((h.2.2 j).2 e), fun e => by have := (hS j hj).2; omega⟩) eg (by
        have e : nextE s world = accV world s.has (if s.has then s.T else s.F) 4 (if s.has then s.H else 0) := by
          unfold nextE
          cases s.has <;> rfl
        rw [← e]
        refine (ha _ OM).mono ?_
        rintro e w' ⟨v, err, h1, h2, h3, h4, h5⟩
        exact ⟨v, err, h1, ⟨h2, h3, h4⟩, h5⟩)
    refine key.mono ?_
    rintro e w' ⟨v, err, W1, h1, ⟨h2, h3, h4⟩, h5, h6, h7⟩
    exact ⟨v, err, h1, h2, ⟨W1, h3, h4, h5, h7⟩, h6⟩)
  have FIN := Lib.hid (show ∀ w2 w', Below w.heap.size w w2 → Stepped (Asked S T b) b s (me b) w2 w' → ∃ v err W W1 O', (0 ≤ v ∧ v < 4294967296) ∧ I64 err ∧ Only O w W ∧ T W v err W1 ∧ Only S W W1 ∧ Only (fun j => O j ∨ (w.heap.size ≤ j ∧ j < W.heap.size)) W1 w' ∧ Eng w' b (toldE s v err) O' ∧ ∀ j, O' j → O j ∨ (w.heap.size ≤ j ∧ j < W.heap.size) ∨ W1.heap.size ≤ j by
    rintro w2 w' hw2 ⟨W, W2, v, err, k1, k2, ⟨W1, k3, k4, k5, k6⟩, k7, k8⟩
    have BW : Below w.heap.size w W := hw2.trans (k1.mono hw2.size)
    refine ⟨v, err, _, W1, O, k2, k3, (Only.of_below BW).setCell (p := ⟨b, 9, none⟩) OB.out _, k4, k5, ?_, ⟨k7, inv_told h.1.ok h.2.1 hb v err, h.2.2⟩, fun j hj => .inl hj⟩
    exact (k6.trans k8).mono (fun j _ e => .inl ((h.2.2 j).2 e)))
  have hn := fun w => fn_nil g rv lb w
  obtain ⟨F, T0, L, H, has, busy, den, don, cal⟩ := s
  have hb : busy = true := hb
  subst hb
  clear ha h hlt OB
  go_enter Tryz.func51, Tryz.ntmps51
  go_wp2_with fail
  refine Y.out.mono ?_
  rintro e w1 ⟨⟨c, rfl, hx, rfl⟩, hb1⟩
  have B1 := Lib.hid hb1
  have c5 := hx.c 5 rfl
  have c9 := hx.c 9 rfl
  clear hx hb1 Y
  go_wp2_with fail
  refine (asker_any _ world g rv lb w1).mono ?_
  rintro e w2 ⟨⟨pe, pa, pw, rfl, k1, k2, k3, k4, k5, k6⟩, hb2⟩
  have B2 := Lib.hid (B1.out.trans (hb2.mono B1.out.size))
  have s1 := B1.out.size
  have C := Lib.hid (G.out w2 pe pa pw B2.out k1 k2 k3 (Nat.le_trans s1 k4) (Nat.le_trans s1 k5) (Nat.le_trans s1 k6))
  clear k1 k2 k3 k4 k5 k6 hb2 s1 c5 c9 G
  go_wp2_with fail
  refine C.out.mono ?_
  rintro e w3 ⟨rfl, hs⟩
  have R := Lib.hid (FIN.out w2 w3 B2.out hs)
  clear hs
  go_wp2_with fail
  go_ret
  exact ⟨rfl, R.out⟩
theorem readE_zero (reg : Int) : readE zeroE reg = 0 := by
  unfold readE
  split
  · rfl
  split
  · rfl
  split
  · rfl
  split <;> rfl
theorem Read_non (v : Value) (reg : Int) (w : World) (h1 : I64 reg) (h : Non w v) :
    Calls Tryz.prog 268 #[v, .int .i64 reg] w fun e w' => e = .returned (.int .u32 0) ∧ Below w.heap.size w w' := by
  rw [← readE_zero reg]
  exact read_q _ zeroE (.pointer none) reg w h1 (weak (engine_non v w h))
theorem Write_non (v : Value) (reg x : Int) (w : World) (h1 : I64 reg) (h2 : 0 ≤ x ∧ x < 4294967296) (h : Non w v) :
    Calls Tryz.prog 269 #[v, .int .i64 reg, .int .u32 x] w fun e w' => e = .returned (.tuple #[]) ∧ Below w.heap.size w w' := by
  refine (write_q v zeroE (.pointer none) reg x (fun k => w.heap.size ≤ k) w h1 h2 inv_zero (engine_non v w h)).mono ?_
  rintro e w' ⟨rfl, k, hk, a1, a2⟩
  exact ⟨rfl, a2.below (Nat.le_refl _) (fun j e => by have : j = k := e; rw [this]; exact hk)⟩
theorem Line_non (v : Value) (w : World) (h : Non w v) :
    Calls Tryz.prog 289 #[v] w fun e w' => e = .returned (.bool false) ∧ Below w.heap.size w w' := by
  rw [show false = lineE zeroE from rfl]
  exact line_q _ zeroE (.pointer none) w (weak (engine_non v w h))
theorem State_non (v : Value) (w : World) (h : Non w v) :
    Calls Tryz.prog 288 #[v] w fun e w' => e = .returned (stE zeroE) ∧ Below w.heap.size w w' :=
  state_q _ zeroE (.pointer none) w (fun W hW => weak (engine_non v W (h.keep hW)))
theorem Step_non (v : Value) (world : Int) (f : Value) (w : World) (h1 : I64 world) (h : Non w v) (hf : f = .nilFunc ∨ ∃ g rv lb, f = .func (.func g) rv lb) :
    Calls Tryz.prog 51 #[v, .int .i64 world, f] w fun e w' => e = .returned (.bool false) ∧ Below w.heap.size w w' :=
  idle_q v zeroE (.pointer none) world f w (hf.elim .inl (fun h => .inr ⟨rfl, h⟩)) (weak (engine_non v w h))
end Go.Proofs.YtknhgfofmkpnfaaGreat.Dma
