/- Package dma: the small functions. EX w b s k x: an engine of the state s lies in block b; k: whether it asks; x: what it says of where it lies. -/
import Derived.Test.YthpkebcedaakhaaDa
import Derived.Test.YthpkebcedaakhaaZa
import Derived.Laws.BitsAllLaws
import Derived.BigQuiet
import Derived.BigRegion
import Derived.LaidEqlPtr
namespace Go.Proofs.Ythpkebcedaakhaa.Dma
open Go.RowKit Go.Maps Go.ChangeShapes Go.WideShapes Go.ChangeAt Fifo Orow Word Fmap
set_option linter.unusedVariables false

theorem ret_u32' {a b : Int} (h : a = b) : Ending.returned (.int .u32 a) = .returned (.int .u32 b) := by rw [h]
theorem ret_bool' {x y : Bool} (h : x = y) : Ending.returned (.bool x) = .returned (.bool y) := by rw [h]
abbrev cellsQ (s : En) (k : Bool) (x : Value) : List Value := [.int .u32 s.F, .int .u32 s.T, .int .u32 s.L, .int .u32 s.H, .bool s.has, .bool s.busy, .bool s.den, .bool s.don, .bool s.cal, .bool k, x]
structure EX (w : World) (b : Nat) (s : En) (k : Bool) (x : Value) : Prop where
  blk : Blk w b 50 (cellsQ s k x)
  ok : OkE s
theorem EX.only {S : Nat → Prop} {w w' : World} {b : Nat} {s : En} {k : Bool} {x : Value} (h : EX w b s k x) (ho : Only S w w') (hn : ¬ S b) : EX w' b s k x := ⟨h.blk.only ho hn, h.ok⟩
theorem EX.keep {w w' : World} {b : Nat} {s : En} {k : Bool} {x : Value} (h : EX w b s k x) (hb : Below w.heap.size w w') : EX w' b s k x := ⟨h.blk.keep hb, h.ok⟩
theorem EX.lt {w : World} {b : Nat} {s : En} {k : Bool} {x : Value} (h : EX w b s k x) : b < w.heap.size := h.blk.lt
theorem EX.c {w : World} {b : Nat} {s : En} {k : Bool} {x : Value} (h : EX w b s k x) (i : Nat) {v : Value} (hv : (cellsQ s k x)[i]? = some v) : w.cell? ⟨b, i, none⟩ = some v := h.blk.at i hv
theorem ex_set {w : World} {b : Nat} {s s' : En} {k k' : Bool} {x : Value} (h : EX w b s k x) (i : Nat) (v : Value) (hc : (cellsQ s k x).set i v = cellsQ s' k' x) (hk : OkE s') : EX (w.setCell ⟨b, i, none⟩ v) b s' k' x ∧ Only (fun j => j = b) w (w.setCell ⟨b, i, none⟩ v) :=
  ⟨⟨by have := h.blk.set i v; rwa [hc] at this, hk⟩, (Only.refl (fun j => j = b) w).setCell (p := ⟨b, i, none⟩) rfl v⟩
theorem ex_set2 {w : World} {b : Nat} {s s' s'' : En} {k k' k'' : Bool} {x : Value} (h : EX w b s k x) (i : Nat) (v : Value) (hc : (cellsQ s k x).set i v = cellsQ s' k' x) (hk : OkE s') (i2 : Nat) (v2 : Value) (hc2 : (cellsQ s' k' x).set i2 v2 = cellsQ s'' k'' x) (hk2 : OkE s'') :
    EX ((w.setCell ⟨b, i, none⟩ v).setCell ⟨b, i2, none⟩ v2) b s'' k'' x ∧ Only (fun j => j = b) w ((w.setCell ⟨b, i, none⟩ v).setCell ⟨b, i2, none⟩ v2) := by
  have h1 := ex_set h i v hc hk
  have h2 := ex_set h1.1 i2 v2 hc2 hk2
  exact ⟨h2.1, h1.2.trans h2.2⟩
theorem and_1 {v : Int} (h : 0 ≤ v ∧ v < 4294967296) : bits .and .u32 v 1 = v % 2 := by
  obtain ⟨x, rfl⟩ := Int.eq_ofNat_of_zero_le h.1
  rw [show (1 : Int) = ((1 : Nat) : Int) from rfl, u32_and_nat x 1 (by omega) (by omega), show (1 : Nat) = 2 ^ 1 - 1 from rfl, Nat.and_two_pow_sub_one_eq_mod]
  rfl
theorem nat_and_256 (x : Nat) : x &&& 2 ^ 8 = x / 2 ^ 8 % 2 * 2 ^ 8 := by
  apply Nat.eq_of_testBit_eq
  intro i
  rw [Nat.testBit_and, Nat.testBit_two_pow, Nat.testBit_mul_two_pow]
  by_cases e : 8 = i
  · subst e
    simp [Nat.testBit_eq_decide_div_mod_eq]
  · rw [decide_eq_false e, Bool.and_false]
    by_cases g : 8 ≤ i
    · obtain ⟨j, rfl⟩ : ∃ j, i = 8 + (j + 1) := ⟨i - 9, by omega⟩
      rw [show 8 + (j + 1) - 8 = j + 1 by omega, Nat.testBit_lt_two_pow (i := j + 1)]
      · simp
      · have := Nat.pow_le_pow_right (n := 2) (by omega) (show 1 ≤ j + 1 by omega)
        omega
    · simp [g]
theorem and_256 {v : Int} (h : 0 ≤ v ∧ v < 4294967296) : bits .and .u32 v 256 = v / 256 % 2 * 256 := by
  obtain ⟨x, rfl⟩ := Int.eq_ofNat_of_zero_le h.1
  rw [show (256 : Int) = ((256 : Nat) : Int) from rfl, u32_and_nat x 256 (by omega) (by omega), show (256 : Nat) = 2 ^ 8 from rfl, nat_and_256]
  omega
/-- What a state's functions are asked of: what they leave. -/
abbrev Leaves1 (b : Nat) (w : World) (s' : En) (k : Bool) (x : Value) (e : Ending) (w' : World) : Prop := e = .returned (.tuple #[]) ∧ EX w' b s' k x ∧ Only (fun j => j = b) w w'
theorem fromNow_any (b : Nat) (s : En) (k : Bool) (x : Value) (w : World) (h : EX w b s k x) :
    Calls Try.prog 41 #[.pointer (some ⟨b, 0, none⟩)] w fun e w' => e = .returned (.int .u32 s.F) ∧ w = w' := by
  have c := h.c 0 rfl
  clear h
  go_enter Try.func41, Try.ntmps41
  go_wp2_with fail
  go_ret
  exact ⟨rfl, rfl⟩
theorem toNow_any (b : Nat) (s : En) (k : Bool) (x : Value) (w : World) (h : EX w b s k x) :
    Calls Try.prog 42 #[.pointer (some ⟨b, 0, none⟩)] w fun e w' => e = .returned (.int .u32 s.T) ∧ w = w' := by
  have c := h.c 1 rfl
  clear h
  go_enter Try.func42, Try.ntmps42
  go_wp2_with fail
  go_ret
  exact ⟨rfl, rfl⟩
theorem leftNow_any (b : Nat) (s : En) (k : Bool) (x : Value) (w : World) (h : EX w b s k x) :
    Calls Try.prog 43 #[.pointer (some ⟨b, 0, none⟩)] w fun e w' => e = .returned (.int .u32 s.L) ∧ w = w' := by
  have c := h.c 2 rfl
  clear h
  go_enter Try.func43, Try.ntmps43
  go_wp2_with fail
  go_ret
  exact ⟨rfl, rfl⟩
set_option maxHeartbeats 4000000 in
theorem ctrlNow_core (b : Nat) (B D N C : Bool) (w : World) (c5 : w.cell? ⟨b, 5, none⟩ = some (.bool B)) (c6 : w.cell? ⟨b, 6, none⟩ = some (.bool D)) (c7 : w.cell? ⟨b, 7, none⟩ = some (.bool N)) (c8 : w.cell? ⟨b, 8, none⟩ = some (.bool C)) :
    Calls Try.prog 44 #[.pointer (some ⟨b, 0, none⟩)] w fun e w' => e = .returned (.int .u32 (bitV B 1 + bitV D 2 + bitV N 4 + bitV C 256)) ∧ w = w' := by
  have o0_1 : bits .or .u32 0 1 = 1 := by decide
  have o0_2 : bits .or .u32 0 2 = 2 := by decide
  have o1_2 : bits .or .u32 1 2 = 3 := by decide
  have o0_4 : bits .or .u32 0 4 = 4 := by decide
  have o1_4 : bits .or .u32 1 4 = 5 := by decide
  have o2_4 : bits .or .u32 2 4 = 6 := by decide
  have o3_4 : bits .or .u32 3 4 = 7 := by decide
  have o0_256 : bits .or .u32 0 256 = 256 := by decide
  have o1_256 : bits .or .u32 1 256 = 257 := by decide
  have o2_256 : bits .or .u32 2 256 = 258 := by decide
  have o3_256 : bits .or .u32 3 256 = 259 := by decide
  have o4_256 : bits .or .u32 4 256 = 260 := by decide
  have o5_256 : bits .or .u32 5 256 = 261 := by decide
  have o6_256 : bits .or .u32 6 256 = 262 := by decide
  have o7_256 : bits .or .u32 7 256 = 263 := by decide
  cases B <;> cases D <;> cases N <;> cases C
  all_goals
    go_enter Try.func44, Try.ntmps44
    go_wp2_with fail
    go_ret
    exact ⟨by first | rfl | exact ret_u32' (by simp [bitV]), rfl⟩
theorem ctrlNow_any (b : Nat) (s : En) (k : Bool) (x : Value) (w : World) (h : EX w b s k x) :
    Calls Try.prog 44 #[.pointer (some ⟨b, 0, none⟩)] w fun e w' => e = .returned (.int .u32 (bitV s.busy 1 + bitV s.den 2 + bitV s.don 4 + bitV s.cal 256)) ∧ w = w' :=
  ctrlNow_core b _ _ _ _ w (h.c 5 rfl) (h.c 6 rfl) (h.c 7 rfl) (h.c 8 rfl)
theorem setIdle_busy (b i : Nat) (v : Int) (w : World) (c5 : w.cell? ⟨b, 5, none⟩ = some (.bool true)) :
    Calls Try.prog 55 #[.pointer (some ⟨b, 0, none⟩), .pointer (some ⟨b, i, none⟩), .int .u32 v] w fun e w' => e = .returned (.tuple #[]) ∧ w' = w := by
  go_enter Try.func55, Try.ntmps55
  go_wp2_with fail
  go_end0
  exact ⟨rfl, rfl⟩
theorem setIdle_idle (b i : Nat) (v : Int) (old : Value) (w : World) (c5 : w.cell? ⟨b, 5, none⟩ = some (.bool false)) (ci : w.cell? ⟨b, i, none⟩ = some old) (fi : w.frozen? ⟨b, i, none⟩ = false) :
    Calls Try.prog 55 #[.pointer (some ⟨b, 0, none⟩), .pointer (some ⟨b, i, none⟩), .int .u32 v] w fun e w' => e = .returned (.tuple #[]) ∧ w' = w.setCell ⟨b, i, none⟩ (.int .u32 v) := by
  go_enter Try.func55, Try.ntmps55
  go_wp2_with fail
  go_end0
  exact ⟨rfl, rfl⟩
theorem setFrom_any (b : Nat) (s : En) (k : Bool) (x : Value) (v : Int) (w : World) (hv : 0 ≤ v ∧ v < 4294967296) (h : EX w b s k x) :
    Calls Try.prog 45 #[.pointer (some ⟨b, 0, none⟩), .int .u32 v] w (Leaves1 b w (writeE s 0 v) k x) := by
  have O := Lib.hid (ok_write h.ok 0 v hv)
  obtain ⟨F, T, L, H, has, busy, den, don, cal⟩ := s
  cases busy
  · have C := Lib.hid (setIdle_idle b 0 v _ w (h.c 5 rfl) (h.c 0 rfl) (h.blk.frozen 0))
    have R := Lib.hid (ex_set h 0 (.int .u32 v) (s' := writeE ⟨F, T, L, H, has, false, den, don, cal⟩ 0 v) (k' := k) rfl O.out)
    clear h hv O
    go_enter Try.func45, Try.ntmps45
    go_wp2_with fail
    refine C.out.mono ?_
    rintro e w1 ⟨rfl, rfl⟩
    go_wp2_with fail
    go_end0
    exact ⟨rfl, R.out⟩
  · have C := Lib.hid (setIdle_busy b 0 v w (h.c 5 rfl))
    have R := Lib.hid (show EX w b (writeE ⟨F, T, L, H, has, true, den, don, cal⟩ 0 v) k x from h)
    clear h hv O
    go_enter Try.func45, Try.ntmps45
    go_wp2_with fail
    refine C.out.mono ?_
    rintro e w1 ⟨rfl, rfl⟩
    go_wp2_with fail
    go_end0
    exact ⟨rfl, R.out, Only.refl _ _⟩
theorem setTo_any (b : Nat) (s : En) (k : Bool) (x : Value) (v : Int) (w : World) (hv : 0 ≤ v ∧ v < 4294967296) (h : EX w b s k x) :
    Calls Try.prog 46 #[.pointer (some ⟨b, 0, none⟩), .int .u32 v] w (Leaves1 b w (writeE s 1 v) k x) := by
  have O := Lib.hid (ok_write h.ok 1 v hv)
  obtain ⟨F, T, L, H, has, busy, den, don, cal⟩ := s
  cases busy
  · have C := Lib.hid (setIdle_idle b 1 v _ w (h.c 5 rfl) (h.c 1 rfl) (h.blk.frozen 1))
    have R := Lib.hid (ex_set h 1 (.int .u32 v) (s' := writeE ⟨F, T, L, H, has, false, den, don, cal⟩ 1 v) (k' := k) rfl O.out)
    clear h hv O
    go_enter Try.func46, Try.ntmps46
    go_wp2_with fail
    refine C.out.mono ?_
    rintro e w1 ⟨rfl, rfl⟩
    go_wp2_with fail
    go_end0
    exact ⟨rfl, R.out⟩
  · have C := Lib.hid (setIdle_busy b 1 v w (h.c 5 rfl))
    have R := Lib.hid (show EX w b (writeE ⟨F, T, L, H, has, true, den, don, cal⟩ 1 v) k x from h)
    clear h hv O
    go_enter Try.func46, Try.ntmps46
    go_wp2_with fail
    refine C.out.mono ?_
    rintro e w1 ⟨rfl, rfl⟩
    go_wp2_with fail
    go_end0
    exact ⟨rfl, R.out, Only.refl _ _⟩
theorem setLeft_any (b : Nat) (s : En) (k : Bool) (x : Value) (v : Int) (w : World) (hv : 0 ≤ v ∧ v < 4294967296) (h : EX w b s k x) :
    Calls Try.prog 47 #[.pointer (some ⟨b, 0, none⟩), .int .u32 v] w (Leaves1 b w (writeE s 2 v) k x) := by
  have O := Lib.hid (ok_write h.ok 2 v hv)
  obtain ⟨F, T, L, H, has, busy, den, don, cal⟩ := s
  cases busy
  · have C := Lib.hid (setIdle_idle b 2 v _ w (h.c 5 rfl) (h.c 2 rfl) (h.blk.frozen 2))
    have R := Lib.hid (ex_set h 2 (.int .u32 v) (s' := writeE ⟨F, T, L, H, has, false, den, don, cal⟩ 2 v) (k' := k) rfl O.out)
    clear h hv O
    go_enter Try.func47, Try.ntmps47
    go_wp2_with fail
    refine C.out.mono ?_
    rintro e w1 ⟨rfl, rfl⟩
    go_wp2_with fail
    go_end0
    exact ⟨rfl, R.out⟩
  · have C := Lib.hid (setIdle_busy b 2 v w (h.c 5 rfl))
    have R := Lib.hid (show EX w b (writeE ⟨F, T, L, H, has, true, den, don, cal⟩ 2 v) k x from h)
    clear h hv O
    go_enter Try.func47, Try.ntmps47
    go_wp2_with fail
    refine C.out.mono ?_
    rintro e w1 ⟨rfl, rfl⟩
    go_wp2_with fail
    go_end0
    exact ⟨rfl, R.out, Only.refl _ _⟩
theorem hold_any (b : Nat) (v : Int) (o3 o4 : Value) (w : World) (c3 : w.cell? ⟨b, 3, none⟩ = some o3) (c4 : w.cell? ⟨b, 4, none⟩ = some o4) (f3 : w.frozen? ⟨b, 3, none⟩ = false) (f4 : w.frozen? ⟨b, 4, none⟩ = false) :
    Calls Try.prog 39 #[.pointer (some ⟨b, 0, none⟩), .int .u32 v] w fun e w' => e = .returned (.tuple #[]) ∧ w' = (w.setCell ⟨b, 3, none⟩ (.int .u32 v)).setCell ⟨b, 4, none⟩ (.bool true) := by
  go_enter Try.func39, Try.ntmps39
  go_wp2_with fail
  go_end0
  exact ⟨rfl, rfl⟩
theorem ok_H {s : En} (h : OkE s) (v : Int) (hv : 0 ≤ v ∧ v < 4294967296) (b : Bool) : OkE { s with H := v, has := b } := ⟨h.f, h.t, h.l, hv⟩
theorem ok_0 {s : En} (h : OkE s) (b : Bool) : OkE { s with H := 0, has := b } := ok_H h 0 ⟨by show (0 : Int) ≤ 0; omega, by show (0 : Int) < _; omega⟩ b
theorem drop_any (b : Nat) (s : En) (k : Bool) (x : Value) (w : World) (h : EX w b s k x) :
    Calls Try.prog 51 #[.pointer (some ⟨b, 0, none⟩)] w (Leaves1 b w { s with H := 0, has := false } k x) := by
  have R := Lib.hid (ex_set2 h 3 (.int .u32 0) (s' := { s with H := 0 }) (k' := k) rfl (ok_0 h.ok s.has) 4 (.bool false) (s'' := { s with H := 0, has := false }) (k'' := k) rfl (ok_0 h.ok false))
  have c3 := h.c 3 rfl
  have c4 := h.c 4 rfl
  have f3 := h.blk.frozen 3
  have f4 := h.blk.frozen 4
  clear h
  go_enter Try.func51, Try.ntmps51
  go_wp2_with fail
  go_end0
  exact ⟨rfl, R.out⟩
theorem stop_any (b : Nat) (s : En) (k : Bool) (x : Value) (w : World) (h : EX w b s k x) :
    Calls Try.prog 52 #[.pointer (some ⟨b, 0, none⟩)] w (Leaves1 b w { s with H := 0, has := false, busy := false } k x) := by
  have D := Lib.hid (drop_any b s k x w h)
  have O := Lib.hid (ok_0 h.ok false)
  clear h
  go_enter Try.func52, Try.ntmps52
  go_wp2_with fail
  refine D.out.mono ?_
  rintro e w1 ⟨rfl, h1, h2⟩
  have R := Lib.hid (ex_set h1 5 (.bool false) (s' := { s with H := 0, has := false, busy := false }) (k' := k) rfl ⟨O.out.f, O.out.t, O.out.l, O.out.h⟩)
  have HO := Lib.hid h2
  have c5 := h1.c 5 rfl
  have f5 := h1.blk.frozen 5
  clear h1 h2
  go_wp2_with fail
  go_end0
  exact ⟨rfl, R.out.1, HO.out.trans R.out.2⟩
def beginE (s : En) : En := if 0 < s.L then { s with busy := true } else { s with don := true }
theorem begin_any (b : Nat) (s : En) (k : Bool) (x : Value) (w : World) (h : EX w b s k x) :
    Calls Try.prog 56 #[.pointer (some ⟨b, 0, none⟩)] w (Leaves1 b w (beginE s) k x) := by
  have hl := h.ok.l.1
  have c2 := h.c 2 rfl
  have c5 := h.c 5 rfl
  have c7 := h.c 7 rfl
  have f5 := h.blk.frozen 5
  have f7 := h.blk.frozen 7
  by_cases e : s.L = 0
  · have R := Lib.hid (ex_set h 7 (.bool true) (s' := beginE s) (k' := k) (by unfold beginE; rw [if_neg (by omega)]; rfl) (by unfold beginE; rw [if_neg (by omega)]; exact ⟨h.ok.f, h.ok.t, h.ok.l, h.ok.h⟩))
    have d : (s.L == 0) = true := beq_iff_eq.2 e
    clear h hl e
    go_enter Try.func56, Try.ntmps56
    go_wp2_with fail
    refine bodyPost_ret (results_none rfl _ _ _) rfl ?_
    exact ⟨rfl, R.out⟩
  · have R := Lib.hid (ex_set h 5 (.bool true) (s' := beginE s) (k' := k) (by unfold beginE; rw [if_pos (by omega)]; rfl) (by unfold beginE; rw [if_pos (by omega)]; exact ⟨h.ok.f, h.ok.t, h.ok.l, h.ok.h⟩))
    have d : (s.L == 0) = false := by simpa using e
    clear h hl e
    go_enter Try.func56, Try.ntmps56
    go_wp2_with fail
    go_end0
    exact ⟨rfl, R.out⟩
theorem forget_any (b : Nat) (s : En) (k : Bool) (x : Value) (v : Int) (w : World) (hv : 0 ≤ v ∧ v < 4294967296) (h : EX w b s k x) :
    Calls Try.prog 49 #[.pointer (some ⟨b, 0, none⟩), .int .u32 v] w (Leaves1 b w (writeE s 4 v) k x) := by
  have R := Lib.hid (ex_set2 h 6 (.bool false) (s' := { s with den := false }) (k' := k) rfl ⟨h.ok.f, h.ok.t, h.ok.l, h.ok.h⟩ 7 (.bool false) (s'' := writeE s 4 v) (k'' := k) rfl (ok_write h.ok 4 v hv))
  have c6 := h.c 6 rfl
  have c7 := h.c 7 rfl
  have f6 := h.blk.frozen 6
  have f7 := h.blk.frozen 7
  clear h hv
  go_enter Try.func49, Try.ntmps49
  go_wp2_with fail
  go_end0
  exact ⟨rfl, R.out⟩
def ctrlC (s : En) (n : Int) (C : Bool) : En := if n = 0 then { s with cal := C, busy := false, has := false, H := 0 } else if s.busy then { s with cal := C } else if 0 < s.L then { s with cal := C, has := false, H := 0, busy := true } else { s with cal := C, has := false, H := 0, don := true }
theorem setCtrl_core (b : Nat) (F T L H : Int) (has busy den don cal : Bool) (k : Bool) (x : Value) (v n m : Int) (C : Bool) (w : World) (a1 : bits .and .u32 v 1 = n) (a2 : bits .and .u32 v 256 = m) (ec : (m != 0) = C) (hi : InvE ⟨F, T, L, H, has, busy, den, don, cal⟩) (h : EX w b ⟨F, T, L, H, has, busy, den, don, cal⟩ k x) :
    Calls Try.prog 48 #[.pointer (some ⟨b, 0, none⟩), .int .u32 v] w (Leaves1 b w (ctrlC ⟨F, T, L, H, has, busy, den, don, cal⟩ n C) k x) := by
  have R := Lib.hid (ex_set h 8 (.bool C) (s' := ⟨F, T, L, H, has, busy, den, don, C⟩) (k' := k) rfl ⟨h.ok.f, h.ok.t, h.ok.l, h.ok.h⟩)
  have c8 := h.c 8 rfl
  have c5 := h.c 5 rfl
  have f8 := h.blk.frozen 8
  clear h
  by_cases e : n = 0
  · have d : (n == 0) = true := beq_iff_eq.2 e
    rw [show ctrlC ⟨F, T, L, H, has, busy, den, don, cal⟩ n C = ⟨F, T, L, 0, false, false, den, don, C⟩ from if_pos e]
    clear e hi
    have G := Lib.hid (fun w => stop_any b ⟨F, T, L, H, has, busy, den, don, C⟩ k x w)
    go_enter Try.func48, Try.ntmps48
    go_wp2_with fail
    refine calls_letter ?_
    intro W hW
    have R1 := Lib.hid (show EX W b ⟨F, T, L, H, has, busy, den, don, C⟩ k x ∧ Only (fun j => j = b) w W by rw [hW.out]; exact R.out)
    clear hW R c8 f8 c5
    refine (G.out _ R1.out.1).mono ?_
    rintro e w1 ⟨rfl, h1, h2⟩
    have RR := Lib.hid (And.intro h1 (R1.out.2.trans h2))
    clear h1 h2
    go_wp2_with fail
    go_end0
    exact ⟨rfl, RR.out⟩
  · have d : (n == 0) = false := by simpa using e
    cases busy
    · have hh : has = false := by
        cases has
        · rfl
        · exact absurd (hi.a rfl) (fun q => by cases q)
      subst hh
      have hH : H = 0 := hi.b rfl
      subst hH
      have eT : ctrlC ⟨F, T, L, 0, false, false, den, don, cal⟩ n C = beginE ⟨F, T, L, 0, false, false, den, don, C⟩ := by
        unfold ctrlC beginE
        rw [if_neg e]
        rfl
      rw [eT]
      have G := Lib.hid (fun w => begin_any b ⟨F, T, L, 0, false, false, den, don, C⟩ k x w)
      clear eT hi e
      go_enter Try.func48, Try.ntmps48
      go_wp2_with fail
      refine calls_letter ?_
      intro W hW
      have R1 := Lib.hid (show EX W b ⟨F, T, L, 0, false, false, den, don, C⟩ k x ∧ Only (fun j => j = b) w W by rw [hW.out]; exact R.out)
      clear hW R c8 f8 c5
      refine (G.out _ R1.out.1).mono ?_
      rintro e w1 ⟨rfl, h1, h2⟩
      have RR := Lib.hid (And.intro h1 (R1.out.2.trans h2))
      clear h1 h2
      go_wp2_with fail
      go_end0
      exact ⟨rfl, RR.out⟩
    · rw [show ctrlC ⟨F, T, L, H, has, true, den, don, cal⟩ n C = ⟨F, T, L, H, has, true, den, don, C⟩ from if_neg e]
      clear hi e
      go_enter Try.func48, Try.ntmps48
      go_wp2_with fail
      go_end0
      exact ⟨rfl, R.out⟩
theorem setCtrl_any (b : Nat) (s : En) (k : Bool) (x : Value) (v : Int) (w : World) (hv : 0 ≤ v ∧ v < 4294967296) (hi : InvE s) (h : EX w b s k x) :
    Calls Try.prog 48 #[.pointer (some ⟨b, 0, none⟩), .int .u32 v] w (Leaves1 b w (writeE s 3 v) k x) := by
  have ec : (v / 256 % 2 * 256 != 0) = decide (v / 256 % 2 = 1) := by
    by_cases e : v / 256 % 2 = 1
    · rw [decide_eq_true e, e]; decide
    · have : v / 256 % 2 = 0 := by omega
      rw [this]; decide
  exact setCtrl_core b _ _ _ _ _ _ _ _ _ k x v _ _ _ w (and_1 hv) (and_256 hv) ec hi h
theorem line_any (b : Nat) (s : En) (k : Bool) (x : Value) (w : World) (h : EX w b s k x) :
    Calls Try.prog 38 #[.pointer (some ⟨b, 0, none⟩)] w fun e w' => e = .returned (.bool (lineE s)) ∧ w = w' := by
  have c6 := h.c 6 rfl
  have c7 := h.c 7 rfl
  have c8 := h.c 8 rfl
  unfold lineE
  clear h
  obtain ⟨B, hB⟩ : ∃ B, s.cal = B := ⟨_, rfl⟩
  obtain ⟨D, hD⟩ : ∃ D, s.den = D := ⟨_, rfl⟩
  obtain ⟨N, hN⟩ : ∃ N, s.don = N := ⟨_, rfl⟩
  rw [hB] at c8
  rw [hD] at c6
  rw [hN] at c7
  rw [hB, hD, hN]
  clear hB hD hN
  cases B <;> cases D
  all_goals
    go_enter Try.func38, Try.ntmps38
    go_wp2_with fail
    go_ret
    exact ⟨rfl, rfl⟩
theorem engine_info : (Try.prog.info? 50).isSome = true := by kernel_rfl
theorem eq_own (a : Addr) (w : World) : (binOp .eql 27 (.pointer (some a)) (.pointer (some a))).run Try.prog w = .ok (.bool true) w := by
  obtain ⟨j, hj⟩ := Option.isSome_iff_exists.1 engine_info
  exact run_eql_ptr_same w a Try.underlying27 hj
theorem eq_nil (a : Addr) (w : World) : (binOp .eql 27 (.pointer none) (.pointer (some a))).run Try.prog w = .ok (.bool false) w := by
  have h : ∀ d : Nat, (Op.equalIn (d + 1) 27 (.pointer none) (.pointer (some a))).run Try.prog w = .ok false w := fun d => by
    simp [Op.equalIn, run_underlying Try.underlying27]
  simp only [binOp]
  simp [Op.equal, Op.maxDepth, h 9999]
abbrev me (b : Nat) : Value := .pointer (some ⟨b, 0, none⟩)
theorem is_yes (b : Nat) (w : World) (h : w.cell? ⟨b, 10, none⟩ = some (.pointer (some ⟨b, 0, none⟩))) :
    Calls Try.prog 40 #[.pointer (some ⟨b, 0, none⟩)] w fun e w' => e = .returned (.bool true) ∧ w = w' := by
  have he := eq_own ⟨b, 0, none⟩ w
  go_enter Try.func40, Try.ntmps40
  go_wp2_with fail
  go_ret
  exact ⟨rfl, rfl⟩
/-- The cells of one that was not answered. -/
def zeroCells : Array Value := (cellsQ zeroE false (.pointer none)).toArray
/-- No engine: none at all, or one that was not answered. -/
def ZeroAt (w : World) (b : Nat) : Prop := EX w b zeroE false (.pointer none)
theorem zero_new (w : World) : ZeroAt (w.alloc (.cells zeroCells 50)) w.heap.size := ⟨Blk.new w _ _, ok_zero⟩
theorem ZeroAt.keep {w w' : World} {b : Nat} (h : ZeroAt w b) (hb : Below w.heap.size w w') : ZeroAt w' b := EX.keep h hb
def Non (w : World) (v : Value) : Prop := v = .pointer none ∨ ∃ b, v = .pointer (some ⟨b, 0, none⟩) ∧ ZeroAt w b
theorem Non.keep {w w' : World} {v : Value} (h : Non w v) (hb : Below w.heap.size w w') : Non w' v := by
  rcases h with rfl | ⟨b, rfl, h⟩
  · exact .inl rfl
  · exact .inr ⟨b, rfl, h.keep hb⟩
theorem is_non (v : Value) (w : World) (h : Non w v) :
    Calls Try.prog 40 #[v] w fun e w' => e = .returned (.bool false) ∧ w = w' := by
  rcases h with rfl | ⟨b, rfl, h⟩
  · go_enter Try.func40, Try.ntmps40
    go_wp2_with fail
    go_ret
    exact ⟨rfl, rfl⟩
  · have c1 := EX.c h 10 rfl
    have he := eq_nil ⟨b, 0, none⟩ w
    clear h
    go_enter Try.func40, Try.ntmps40
    go_wp2_with fail
    go_ret
    exact ⟨rfl, rfl⟩
theorem engine_yes (b : Nat) (w : World) (h : w.cell? ⟨b, 10, none⟩ = some (.pointer (some ⟨b, 0, none⟩))) :
    Calls Try.prog 27 #[.pointer (some ⟨b, 0, none⟩)] w fun e w' => e = .returned (me b) ∧ w = w' := by
  have H := Lib.hid (is_yes b w h)
  clear h
  go_enter Try.func27, Try.ntmps27
  go_wp2_with fail
  refine H.out.mono ?_
  rintro e w1 ⟨rfl, rfl⟩
  go_wp2_with fail
  go_ret
  exact ⟨rfl, rfl⟩
/-- A fresh one that nobody has: its block is new. -/
theorem engine_non (v : Value) (w : World) (h : Non w v) :
    Calls Try.prog 27 #[v] w fun e w' => (∃ b, e = .returned (me b) ∧ ZeroAt w' b ∧ w.heap.size ≤ b) ∧ Below w.heap.size w w' := by
  have H := Lib.hid (is_non v w h)
  clear h
  go_enter Try.func27, Try.ntmps27
  go_wp2_with fail
  refine H.out.mono ?_
  rintro e w1 ⟨rfl, rfl⟩
  go_wp2_with fail
  go_ret
  exact ⟨⟨_, rfl, zero_new w, Nat.le_refl _⟩, (Below.refl _ _).alloc (Nat.le_refl _) _⟩
theorem keyK : Keyed Try.prog 3 := int_keyed Try.underlying3
def I64 (x : Int) : Prop := -9223372036854775808 ≤ x ∧ x ≤ 9223372036854775807
theorem key_mk (k : Int) (hk : I64 k) : keyOf Try.prog 3 (.int .i64 k) = some (.int .i64 k) := keyOf_int_mk Try.underlying3 (WalkArith.wf_i64 ⟨hk.1, hk.2⟩)
def meth (f : Nat) (b : Nat) : Value := .func (.func f) #[.pointer (some ⟨b, 0, none⟩)] #[]
def readL (b : Nat) : List (Int × Value) := [(3, meth 44 b), (2, meth 43 b), (1, meth 42 b), (0, meth 41 b)]
def writeL (b : Nat) : List (Int × Value) := [(4, meth 49 b), (3, meth 48 b), (2, meth 47 b), (1, meth 46 b), (0, meth 45 b)]
theorem reads_any (b : Nat) (w : World) :
    Calls Try.prog 28 #[.pointer (some ⟨b, 0, none⟩)] w fun e w' => (∃ g, e = .returned (.map (some g)) ∧ FM Try.prog 3 .i64 w' g (readL b)) ∧ Below w.heap.size w w' := by
  have hmm := @run_makeMap Try.prog
  have hmf : ∀ w f r, (Instr.makeFunc (.func f) r #[]).run Try.prog w = .ok (.func (.func f) r #[]) w := fun w f r => rfl
  go_enter Try.func28, Try.ntmps28
  go_wp2_with (with_reducible refine at_insert _ _ _ _ rfl ?_)
  refine Lib.hid ?_
  refine list_letter ?_
  intro W hW
  have B0 := Lib.hid (show Below w.heap.size w W by rw [hW.out]; exact (Below.refl w.heap.size w).alloc (Nat.le_refl _) _)
  have H0 := Lib.hid (show FM Try.prog 3 .i64 W w.heap.size [] by rw [hW.out]; exact FM.made _ _ _ w)
  clear hW
  obtain ⟨g, hg⟩ : ∃ g, w.heap.size = g := ⟨_, rfl⟩
  rw [hg] at B0 H0
  rw [hg]
  refine wpList_insert_fm _ rfl _ _ _ _ rfl 3 60 .i64 keyK Try.underlying62 g _ rfl H0.out (by simp [maxLen]) 0 (meth 41 b) rfl rfl (key_mk 0 ⟨by decide, by decide⟩) ?_
  intro w1 hown hon
  have H1 := Lib.hid hown
  have B1 := Lib.hid (B0.out.trans (hon.below (Nat.le_of_lt H0.out.lt) (fun k e => by have : k = g := e; omega)))
  clear hown hon
  go_wp2_with (with_reducible refine at_insert _ _ _ _ rfl ?_)
  refine Lib.hid ?_
  refine wpList_insert_fm _ rfl _ _ _ _ rfl 3 60 .i64 keyK Try.underlying62 g _ rfl H1.out (by simp [maxLen]) 1 (meth 42 b) rfl rfl (key_mk 1 ⟨by decide, by decide⟩) ?_
  intro w2 hown hon
  have H2 := Lib.hid hown
  have B2 := Lib.hid (B1.out.trans (hon.below (Nat.le_of_lt H1.out.lt) (fun k e => by have : k = g := e; omega)))
  clear hown hon
  go_wp2_with (with_reducible refine at_insert _ _ _ _ rfl ?_)
  refine Lib.hid ?_
  refine wpList_insert_fm _ rfl _ _ _ _ rfl 3 60 .i64 keyK Try.underlying62 g _ rfl H2.out (by simp [maxLen]) 2 (meth 43 b) rfl rfl (key_mk 2 ⟨by decide, by decide⟩) ?_
  intro w3 hown hon
  have H3 := Lib.hid hown
  have B3 := Lib.hid (B2.out.trans (hon.below (Nat.le_of_lt H2.out.lt) (fun k e => by have : k = g := e; omega)))
  clear hown hon
  go_wp2_with (with_reducible refine at_insert _ _ _ _ rfl ?_)
  refine Lib.hid ?_
  refine wpList_insert_fm _ rfl _ _ _ _ rfl 3 60 .i64 keyK Try.underlying62 g _ rfl H3.out (by simp [maxLen]) 3 (meth 44 b) rfl rfl (key_mk 3 ⟨by decide, by decide⟩) ?_
  intro w4 hown hon
  have H4 := Lib.hid hown
  have B4 := Lib.hid (B3.out.trans (hon.below (Nat.le_of_lt H3.out.lt) (fun k e => by have : k = g := e; omega)))
  clear hown hon
  go_wp2_with fail
  go_ret
  exact ⟨⟨g, rfl, H4.out⟩, by rw [hg]; exact B4.out⟩
theorem writes_any (b : Nat) (w : World) :
    Calls Try.prog 30 #[.pointer (some ⟨b, 0, none⟩)] w fun e w' => (∃ g, e = .returned (.map (some g)) ∧ FM Try.prog 3 .i64 w' g (writeL b)) ∧ Below w.heap.size w w' := by
  have hmm := @run_makeMap Try.prog
  have hmf : ∀ w f r, (Instr.makeFunc (.func f) r #[]).run Try.prog w = .ok (.func (.func f) r #[]) w := fun w f r => rfl
  go_enter Try.func30, Try.ntmps30
  go_wp2_with (with_reducible refine at_insert _ _ _ _ rfl ?_)
  refine Lib.hid ?_
  refine list_letter ?_
  intro W hW
  have B0 := Lib.hid (show Below w.heap.size w W by rw [hW.out]; exact (Below.refl w.heap.size w).alloc (Nat.le_refl _) _)
  have H0 := Lib.hid (show FM Try.prog 3 .i64 W w.heap.size [] by rw [hW.out]; exact FM.made _ _ _ w)
  clear hW
  obtain ⟨g, hg⟩ : ∃ g, w.heap.size = g := ⟨_, rfl⟩
  rw [hg] at B0 H0
  rw [hg]
  refine wpList_insert_fm _ rfl _ _ _ _ rfl 3 65 .i64 keyK Try.underlying67 g _ rfl H0.out (by simp [maxLen]) 0 (meth 45 b) rfl rfl (key_mk 0 ⟨by decide, by decide⟩) ?_
  intro w1 hown hon
  have H1 := Lib.hid hown
  have B1 := Lib.hid (B0.out.trans (hon.below (Nat.le_of_lt H0.out.lt) (fun k e => by have : k = g := e; omega)))
  clear hown hon
  go_wp2_with (with_reducible refine at_insert _ _ _ _ rfl ?_)
  refine Lib.hid ?_
  refine wpList_insert_fm _ rfl _ _ _ _ rfl 3 65 .i64 keyK Try.underlying67 g _ rfl H1.out (by simp [maxLen]) 1 (meth 46 b) rfl rfl (key_mk 1 ⟨by decide, by decide⟩) ?_
  intro w2 hown hon
  have H2 := Lib.hid hown
  have B2 := Lib.hid (B1.out.trans (hon.below (Nat.le_of_lt H1.out.lt) (fun k e => by have : k = g := e; omega)))
  clear hown hon
  go_wp2_with (with_reducible refine at_insert _ _ _ _ rfl ?_)
  refine Lib.hid ?_
  refine wpList_insert_fm _ rfl _ _ _ _ rfl 3 65 .i64 keyK Try.underlying67 g _ rfl H2.out (by simp [maxLen]) 2 (meth 47 b) rfl rfl (key_mk 2 ⟨by decide, by decide⟩) ?_
  intro w3 hown hon
  have H3 := Lib.hid hown
  have B3 := Lib.hid (B2.out.trans (hon.below (Nat.le_of_lt H2.out.lt) (fun k e => by have : k = g := e; omega)))
  clear hown hon
  go_wp2_with (with_reducible refine at_insert _ _ _ _ rfl ?_)
  refine Lib.hid ?_
  refine wpList_insert_fm _ rfl _ _ _ _ rfl 3 65 .i64 keyK Try.underlying67 g _ rfl H3.out (by simp [maxLen]) 3 (meth 48 b) rfl rfl (key_mk 3 ⟨by decide, by decide⟩) ?_
  intro w4 hown hon
  have H4 := Lib.hid hown
  have B4 := Lib.hid (B3.out.trans (hon.below (Nat.le_of_lt H3.out.lt) (fun k e => by have : k = g := e; omega)))
  clear hown hon
  go_wp2_with (with_reducible refine at_insert _ _ _ _ rfl ?_)
  refine Lib.hid ?_
  refine wpList_insert_fm _ rfl _ _ _ _ rfl 3 65 .i64 keyK Try.underlying67 g _ rfl H4.out (by simp [maxLen]) 4 (meth 49 b) rfl rfl (key_mk 4 ⟨by decide, by decide⟩) ?_
  intro w5 hown hon
  have H5 := Lib.hid hown
  have B5 := Lib.hid (B4.out.trans (hon.below (Nat.le_of_lt H4.out.lt) (fun k e => by have : k = g := e; omega)))
  clear hown hon
  go_wp2_with fail
  go_ret
  exact ⟨⟨g, rfl, H5.out⟩, by rw [hg]; exact B5.out⟩
end Go.Proofs.Ythpkebcedaakhaa.Dma
