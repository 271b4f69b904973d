/- Put together: Ca, Cb, Cc, Ce, Cf. -/
import Derived.Test.YtfpammfcchboaaaBa
import Derived.Test.YtfpammfcchboaaaRt
/- Plain: right accesses, their records, as numbers. -/
namespace Go.Proofs.Ytfpammfcchboaaa.Access
open Go.RowKit
set_option linter.unusedVariables false

/-- An access as the model holds it: its five parts. -/
abbrev acc (W : Int) (r : Bool) (A S D : Int) : Value := .agg #[.int .i64 W, .bool r, .int .u32 A, .int .i64 S, .int .u32 D]
def wdB (W : Int) : Bool := decide (0 ≤ W ∧ W < 8)
def fitB (D S : Int) : Bool := Word.sizeB S && decide (Word.lowV D S = D)
def silB (r : Bool) (D : Int) : Bool := r || decide (D = 0)
def rightB (W : Int) (r : Bool) (A S D : Int) : Bool := wdB W && Lane.alB A S && fitB D S && silB r D
/-- The second byte of a record. -/
def flagV (r : Bool) (S : Int) : Int := (if r then 1 else 0) + (if S = 2 then 2 else if S = 4 then 4 else 0)
/-- Four bytes of a word, and the word of four bytes. -/
def four (x : Int) : List Int := [x % 256, x / 256 % 256, x / 65536 % 256, x / 16777216]
def num (a b c d : Int) : Int := a + b * 256 + c * 65536 + d * 16777216
/-- A record. -/
def recL (W : Int) (r : Bool) (A S D : Int) : List Int :=
  [W, flagV r S, 0, 0, A % 256, A / 256 % 256, A / 65536 % 256, A / 16777216, D % 256, D / 256 % 256, D / 65536 % 256, D / 16777216]
theorem recL_len (W : Int) (r : Bool) (A S D : Int) : (recL W r A S D).length = 12 := rfl

theorem right_parts {W : Int} {r : Bool} {A S D : Int} (h : rightB W r A S D = true) : 0 ≤ W ∧ W < 8 ∧ (S = 1 ∨ S = 2 ∨ S = 4) ∧ A % S = 0 ∧ Word.lowV D S = D ∧ (r = true ∨ D = 0) := by
  unfold rightB wdB fitB silB Lane.alB at h
  simp only [Bool.and_eq_true, Bool.or_eq_true, decide_eq_true_eq] at h
  obtain ⟨⟨⟨⟨h1, h2⟩, h3, h4⟩, h5, h6⟩, h7⟩ := h
  exact ⟨h1, h2, Word.sizeB_yes h3, h4, h6, h7⟩
theorem right_of {W : Int} {r : Bool} {A S D : Int} (h1 : 0 ≤ W) (h2 : W < 8) (h3 : S = 1 ∨ S = 2 ∨ S = 4) (h4 : A % S = 0) (h5 : Word.lowV D S = D) (h6 : r = true ∨ D = 0) : rightB W r A S D = true := by
  have hs : Word.sizeB S = true := by unfold Word.sizeB; simpa using h3
  unfold rightB wdB fitB silB Lane.alB
  simp only [Bool.and_eq_true, Bool.or_eq_true, decide_eq_true_eq]
  exact ⟨⟨⟨⟨h1, h2⟩, hs, h4⟩, hs, h5⟩, h6⟩

/-- The size that flags tell. -/
def szV (f : Int) : Int := if f = 0 ∨ f = 1 then 1 else if f = 2 ∨ f = 3 then 2 else if f = 4 ∨ f = 5 then 4 else 0
theorem flag_bd (r : Bool) (S : Int) : 0 ≤ flagV r S ∧ flagV r S ≤ 5 := by
  unfold flagV; cases r <;> (repeat' split) <;> omega
theorem sz_flag {r : Bool} {S : Int} (h : S = 1 ∨ S = 2 ∨ S = 4) : szV (flagV r S) = S := by
  rcases h with rfl | rfl | rfl <;> cases r <;> rfl
theorem wr_flag {r : Bool} {S : Int} : decide (flagV r S % 2 = 1) = r := by
  unfold flagV
  cases r
  · rw [decide_eq_false]; simp only [Bool.false_eq_true, if_false]; split <;> (try split) <;> omega
  · rw [decide_eq_true]; simp only [if_true]; split <;> (try split) <;> omega
theorem flag_sz {f : Int} (h0 : 0 ≤ f) (h5 : f ≤ 5) : flagV (decide (f % 2 = 1)) (szV f) = f := by
  have : f = 0 ∨ f = 1 ∨ f = 2 ∨ f = 3 ∨ f = 4 ∨ f = 5 := by omega
  rcases this with rfl | rfl | rfl | rfl | rfl | rfl <;> rfl
theorem sz_no {f : Int} (h : ¬ (0 ≤ f ∧ f ≤ 5)) : szV f = 0 := by
  unfold szV; rw [if_neg (by omega), if_neg (by omega), if_neg (by omega)]
theorem num_four {x : Int} (h0 : 0 ≤ x) (h1 : x < 4294967296) : num (x % 256) (x / 256 % 256) (x / 65536 % 256) (x / 16777216) = x := by
  unfold num; omega
theorem four_num {a b c d : Int} (h : (0 ≤ a ∧ a < 256) ∧ (0 ≤ b ∧ b < 256) ∧ (0 ≤ c ∧ c < 256) ∧ 0 ≤ d ∧ d < 256) :
    num a b c d % 256 = a ∧ num a b c d / 256 % 256 = b ∧ num a b c d / 65536 % 256 = c ∧ num a b c d / 16777216 = d := by
  unfold num; omega
theorem num_bd {a b c d : Int} (h : (0 ≤ a ∧ a < 256) ∧ (0 ≤ b ∧ b < 256) ∧ (0 ≤ c ∧ c < 256) ∧ 0 ≤ d ∧ d < 256) : 0 ≤ num a b c d ∧ num a b c d < 4294967296 := by
  unfold num; omega
end Go.Proofs.Ytfpammfcchboaaa.Access
/- Contracts: what is asked of a record; whether an access is right, both ways. -/
namespace Go.Proofs.Ytfpammfcchboaaa.Access
open Go.RowKit
set_option linter.unusedVariables false

theorem ret_bool {x y : Bool} (h : x = y) : Ending.returned (.bool x) = .returned (.bool y) := by rw [h]

theorem ofWorld_any (W : Int) (r : Bool) (A S D : Int) (b : Bool) (w : World) (hb : wdB W = b) :
    Calls Try.prog 67 #[acc W r A S D] w fun e w' => e = .returned (.bool b) ∧ Below w.heap.size w w' := by
  subst hb
  by_cases h : 0 ≤ W
  · have e : wdB W = decide (W < 8) := by unfold wdB; simp [h]
    rw [e]
    go_enter Try.func67, Try.ntmps67
    go_wp2
    go_ret
    exact ⟨rfl, (Below.refl _ _).alloc (Nat.le_refl _) _⟩
  · have e : wdB W = false := by unfold wdB; exact decide_eq_false (by omega)
    rw [e]
    go_enter Try.func67, Try.ntmps67
    go_wp2
    go_ret
    exact ⟨rfl, (Below.refl _ _).alloc (Nat.le_refl _) _⟩

theorem raligned_any (W : Int) (r : Bool) (A S D : Int) (b : Bool) (w : World) (hA : 0 ≤ A) (hA' : A < 4294967296) (hb : Lane.alB A S = b) :
    Calls Try.prog 68 #[acc W r A S D] w fun e w' => e = .returned (.bool b) ∧ Below w.heap.size w w' := by
  have Al := fun w => Lane.Aligned_any A S b w hA hA' hb
  clear hb
  go_enter Try.func68, Try.ntmps68
  go_wp2_with fail
  refine (Al _).mono ?_
  rintro e w1 ⟨rfl, hb⟩
  have Hb := Lib.hid (((Below.refl w.heap.size w).alloc (Nat.le_refl _) _).trans (hb.mono (by simp)))
  clear hb
  go_wp2_with fail
  go_ret
  exact ⟨rfl, Hb.out⟩

theorem fits_any (W : Int) (r : Bool) (A S D : Int) (b : Bool) (w : World) (hD : 0 ≤ D) (hD' : D < 4294967296) (hb : fitB D S = b) :
    Calls Try.prog 69 #[acc W r A S D] w fun e w' => e = .returned (.bool b) ∧ Below w.heap.size w w' := by
  obtain ⟨lv, hl⟩ : ∃ v, Word.lowV D S = v := ⟨_, rfl⟩
  by_cases hs : Word.sizeB S = true
  · have Lo := fun w => Word.low_q D S lv true w hD hD' hl hs
    have e : b = decide (lv = D) := by rw [← hb, ← hl]; unfold fitB; rw [hs]; simp
    clear hb hl hs
    go_enter Try.func69, Try.ntmps69
    go_wp2_with fail
    refine (Lo _).mono ?_
    rintro e w1 ⟨rfl, rfl⟩
    go_wp2_with fail
    go_ret
    exact ⟨ret_bool (by rw [e, Bool.eq_iff_iff]; simp), (Below.refl _ _).alloc (Nat.le_refl _) _⟩
  · have hs' : Word.sizeB S = false := by simpa using hs
    have Lo := fun w => Word.low_q D S lv false w hD hD' hl hs'
    have e : b = false := by rw [← hb]; unfold fitB; rw [hs']; rfl
    subst e
    clear hb hl hs hs'
    go_enter Try.func69, Try.ntmps69
    go_wp2_with fail
    refine (Lo _).mono ?_
    rintro e w1 ⟨rfl, rfl⟩
    go_wp2_with fail
    go_ret
    exact ⟨rfl, (Below.refl _ _).alloc (Nat.le_refl _) _⟩

theorem silent_any (W : Int) (r : Bool) (A S D : Int) (b : Bool) (w : World) (hb : silB r D = b) :
    Calls Try.prog 70 #[acc W r A S D] w fun e w' => e = .returned (.bool b) ∧ Below w.heap.size w w' := by
  subst hb
  cases r
  · go_enter Try.func70, Try.ntmps70
    go_wp2
    go_ret
    exact ⟨ret_bool (by unfold silB; rw [Bool.eq_iff_iff]; simp), (Below.refl _ _).alloc (Nat.le_refl _) _⟩
  · go_enter Try.func70, Try.ntmps70
    go_wp2
    go_ret
    exact ⟨rfl, (Below.refl _ _).alloc (Nat.le_refl _) _⟩
end Go.Proofs.Ytfpammfcchboaaa.Access
/- Contracts: whether an access is right, both ways. -/
namespace Go.Proofs.Ytfpammfcchboaaa.Access
open Go.RowKit
set_option linter.unusedVariables false

/-- The row of what must hold. -/
structure Asks (w : World) (g : Nat) (v : Value) : Prop where
  c0 : w.cell? ⟨g, 0, none⟩ = some (.func (.func 67) #[v] #[])
  c1 : w.cell? ⟨g, 1, none⟩ = some (.func (.func 68) #[v] #[])
  c2 : w.cell? ⟨g, 2, none⟩ = some (.func (.func 69) #[v] #[])
  c3 : w.cell? ⟨g, 3, none⟩ = some (.func (.func 70) #[v] #[])
theorem Asks.keep {w w' : World} {g : Nat} {v : Value} (h : Asks w g v) (hb : Below w.heap.size w w') : Asks w' g v := ⟨cell_keep hb h.c0, cell_keep hb h.c1, cell_keep hb h.c2, cell_keep hb h.c3⟩
theorem asks_new (w : World) (v : Value) (o : Obj) (g : Nat) (hg : w.heap.size + 1 = g) (W0 : World)
    (hW : W0 = (w.alloc o).alloc (.cells #[.func (.func 67) #[v] #[], .func (.func 68) #[v] #[], .func (.func 69) #[v] #[], .func (.func 70) #[v] #[]] 29)) :
    Asks W0 g v ∧ Below w.heap.size w W0 := by
  subst hW
  have e : (w.alloc o).heap.size = g := by simpa using hg
  subst e
  exact ⟨⟨World.cell?_alloc_at _ _ _ 0 rfl, World.cell?_alloc_at _ _ _ 1 rfl, World.cell?_alloc_at _ _ _ 2 rfl, World.cell?_alloc_at _ _ _ 3 rfl⟩, ((Below.refl _ _).alloc (Nat.le_refl _) _).alloc (by simp) _⟩

theorem right_1 (W : Int) (r : Bool) (A S D : Int) (w : World)
    (q0 : ∀ w, Calls Try.prog 67 #[acc W r A S D] w fun e w' => e = .returned (.bool false) ∧ Below w.heap.size w w') :
    Calls Try.prog 50 #[acc W r A S D] w fun e w' => e = .returned (.bool false) ∧ Below w.heap.size w w' := by
  have hmf : ∀ (fn : Fn) (first cap : Array Value) (w : World), (Instr.makeFunc fn first cap).run Try.prog w = .ok (.func fn first cap) w := fun _ _ _ _ => rfl
  go_enter Try.func50, Try.ntmps50
  go_wp2_with fail
  obtain ⟨v, hv⟩ : ∃ v, v = acc W r A S D := ⟨_, rfl⟩
  obtain ⟨W0, hW0⟩ : ∃ X : World, X = (w.alloc (.cells #[.int .i64 W, .bool r, .int .u32 A, .int .i64 S, .int .u32 D] 75)).alloc (.cells #[.func (.func 67) #[v] #[], .func (.func 68) #[v] #[], .func (.func 69) #[v] #[], .func (.func 70) #[v] #[]] 29) := ⟨_, rfl⟩
  have hA := asks_new w v _ _ rfl W0 hW0
  subst hv
  rw [← hW0]
  obtain ⟨g, hg⟩ : ∃ g, w.heap.size + 1 = g := ⟨_, rfl⟩
  rw [hg] at hA
  rw [hg]
  have HA := Lib.hid hA.1
  have HB := Lib.hid hA.2
  clear hA hg hW0
  refine wp_loop_rounds 5 ?_
  rw [rounds_succ]
  have d0 := HA.out.c0
  go_wp2_with fail
  refine (q0 _).mono ?_
  rintro e w1 ⟨rfl, hb⟩
  have HA1 := Lib.hid (HA.out.keep hb)
  have HB1 := Lib.hid (HB.out.trans (hb.mono HB.out.size))
  clear hb d0
  go_wp2_with fail
  go_ret
  exact ⟨rfl, HB1.out⟩

theorem right_2 (W : Int) (r : Bool) (A S D : Int) (w : World)
    (q0 : ∀ w, Calls Try.prog 67 #[acc W r A S D] w fun e w' => e = .returned (.bool true) ∧ Below w.heap.size w w')
    (q1 : ∀ w, Calls Try.prog 68 #[acc W r A S D] w fun e w' => e = .returned (.bool false) ∧ Below w.heap.size w w') :
    Calls Try.prog 50 #[acc W r A S D] w fun e w' => e = .returned (.bool false) ∧ Below w.heap.size w w' := by
  have hmf : ∀ (fn : Fn) (first cap : Array Value) (w : World), (Instr.makeFunc fn first cap).run Try.prog w = .ok (.func fn first cap) w := fun _ _ _ _ => rfl
  go_enter Try.func50, Try.ntmps50
  go_wp2_with fail
  obtain ⟨v, hv⟩ : ∃ v, v = acc W r A S D := ⟨_, rfl⟩
  obtain ⟨W0, hW0⟩ : ∃ X : World, X = (w.alloc (.cells #[.int .i64 W, .bool r, .int .u32 A, .int .i64 S, .int .u32 D] 75)).alloc (.cells #[.func (.func 67) #[v] #[], .func (.func 68) #[v] #[], .func (.func 69) #[v] #[], .func (.func 70) #[v] #[]] 29) := ⟨_, rfl⟩
  have hA := asks_new w v _ _ rfl W0 hW0
  subst hv
  rw [← hW0]
  obtain ⟨g, hg⟩ : ∃ g, w.heap.size + 1 = g := ⟨_, rfl⟩
  rw [hg] at hA
  rw [hg]
  have HA := Lib.hid hA.1
  have HB := Lib.hid hA.2
  clear hA hg hW0
  refine wp_loop_rounds 5 ?_
  rw [rounds_succ]
  have d0 := HA.out.c0
  go_wp2_with fail
  refine (q0 _).mono ?_
  rintro e w1 ⟨rfl, hb⟩
  have HA1 := Lib.hid (HA.out.keep hb)
  have HB1 := Lib.hid (HB.out.trans (hb.mono HB.out.size))
  clear hb d0
  go_wp2_with fail
  rw [rounds_succ]
  have d1 := HA1.out.c1
  go_wp2_with fail
  refine (q1 _).mono ?_
  rintro e w2 ⟨rfl, hb⟩
  have HA2 := Lib.hid (HA1.out.keep hb)
  have HB2 := Lib.hid (HB1.out.trans (hb.mono HB1.out.size))
  clear hb d1
  go_wp2_with fail
  go_ret
  exact ⟨rfl, HB2.out⟩

theorem right_3 (W : Int) (r : Bool) (A S D : Int) (w : World)
    (q0 : ∀ w, Calls Try.prog 67 #[acc W r A S D] w fun e w' => e = .returned (.bool true) ∧ Below w.heap.size w w')
    (q1 : ∀ w, Calls Try.prog 68 #[acc W r A S D] w fun e w' => e = .returned (.bool true) ∧ Below w.heap.size w w')
    (q2 : ∀ w, Calls Try.prog 69 #[acc W r A S D] w fun e w' => e = .returned (.bool false) ∧ Below w.heap.size w w') :
    Calls Try.prog 50 #[acc W r A S D] w fun e w' => e = .returned (.bool false) ∧ Below w.heap.size w w' := by
  have hmf : ∀ (fn : Fn) (first cap : Array Value) (w : World), (Instr.makeFunc fn first cap).run Try.prog w = .ok (.func fn first cap) w := fun _ _ _ _ => rfl
  go_enter Try.func50, Try.ntmps50
  go_wp2_with fail
  obtain ⟨v, hv⟩ : ∃ v, v = acc W r A S D := ⟨_, rfl⟩
  obtain ⟨W0, hW0⟩ : ∃ X : World, X = (w.alloc (.cells #[.int .i64 W, .bool r, .int .u32 A, .int .i64 S, .int .u32 D] 75)).alloc (.cells #[.func (.func 67) #[v] #[], .func (.func 68) #[v] #[], .func (.func 69) #[v] #[], .func (.func 70) #[v] #[]] 29) := ⟨_, rfl⟩
  have hA := asks_new w v _ _ rfl W0 hW0
  subst hv
  rw [← hW0]
  obtain ⟨g, hg⟩ : ∃ g, w.heap.size + 1 = g := ⟨_, rfl⟩
  rw [hg] at hA
  rw [hg]
  have HA := Lib.hid hA.1
  have HB := Lib.hid hA.2
  clear hA hg hW0
  refine wp_loop_rounds 5 ?_
  rw [rounds_succ]
  have d0 := HA.out.c0
  go_wp2_with fail
  refine (q0 _).mono ?_
  rintro e w1 ⟨rfl, hb⟩
  have HA1 := Lib.hid (HA.out.keep hb)
  have HB1 := Lib.hid (HB.out.trans (hb.mono HB.out.size))
  clear hb d0
  go_wp2_with fail
  rw [rounds_succ]
  have d1 := HA1.out.c1
  go_wp2_with fail
  refine (q1 _).mono ?_
  rintro e w2 ⟨rfl, hb⟩
  have HA2 := Lib.hid (HA1.out.keep hb)
  have HB2 := Lib.hid (HB1.out.trans (hb.mono HB1.out.size))
  clear hb d1
  go_wp2_with fail
  rw [rounds_succ]
  have d2 := HA2.out.c2
  go_wp2_with fail
  refine (q2 _).mono ?_
  rintro e w3 ⟨rfl, hb⟩
  have HA3 := Lib.hid (HA2.out.keep hb)
  have HB3 := Lib.hid (HB2.out.trans (hb.mono HB2.out.size))
  clear hb d2
  go_wp2_with fail
  go_ret
  exact ⟨rfl, HB3.out⟩

theorem right_4 (W : Int) (r : Bool) (A S D : Int) (w : World)
    (q0 : ∀ w, Calls Try.prog 67 #[acc W r A S D] w fun e w' => e = .returned (.bool true) ∧ Below w.heap.size w w')
    (q1 : ∀ w, Calls Try.prog 68 #[acc W r A S D] w fun e w' => e = .returned (.bool true) ∧ Below w.heap.size w w')
    (q2 : ∀ w, Calls Try.prog 69 #[acc W r A S D] w fun e w' => e = .returned (.bool true) ∧ Below w.heap.size w w')
    (q3 : ∀ w, Calls Try.prog 70 #[acc W r A S D] w fun e w' => e = .returned (.bool false) ∧ Below w.heap.size w w') :
    Calls Try.prog 50 #[acc W r A S D] w fun e w' => e = .returned (.bool false) ∧ Below w.heap.size w w' := by
  have hmf : ∀ (fn : Fn) (first cap : Array Value) (w : World), (Instr.makeFunc fn first cap).run Try.prog w = .ok (.func fn first cap) w := fun _ _ _ _ => rfl
  go_enter Try.func50, Try.ntmps50
  go_wp2_with fail
  obtain ⟨v, hv⟩ : ∃ v, v = acc W r A S D := ⟨_, rfl⟩
  obtain ⟨W0, hW0⟩ : ∃ X : World, X = (w.alloc (.cells #[.int .i64 W, .bool r, .int .u32 A, .int .i64 S, .int .u32 D] 75)).alloc (.cells #[.func (.func 67) #[v] #[], .func (.func 68) #[v] #[], .func (.func 69) #[v] #[], .func (.func 70) #[v] #[]] 29) := ⟨_, rfl⟩
  have hA := asks_new w v _ _ rfl W0 hW0
  subst hv
  rw [← hW0]
  obtain ⟨g, hg⟩ : ∃ g, w.heap.size + 1 = g := ⟨_, rfl⟩
  rw [hg] at hA
  rw [hg]
  have HA := Lib.hid hA.1
  have HB := Lib.hid hA.2
  clear hA hg hW0
  refine wp_loop_rounds 5 ?_
  rw [rounds_succ]
  have d0 := HA.out.c0
  go_wp2_with fail
  refine (q0 _).mono ?_
  rintro e w1 ⟨rfl, hb⟩
  have HA1 := Lib.hid (HA.out.keep hb)
  have HB1 := Lib.hid (HB.out.trans (hb.mono HB.out.size))
  clear hb d0
  go_wp2_with fail
  rw [rounds_succ]
  have d1 := HA1.out.c1
  go_wp2_with fail
  refine (q1 _).mono ?_
  rintro e w2 ⟨rfl, hb⟩
  have HA2 := Lib.hid (HA1.out.keep hb)
  have HB2 := Lib.hid (HB1.out.trans (hb.mono HB1.out.size))
  clear hb d1
  go_wp2_with fail
  rw [rounds_succ]
  have d2 := HA2.out.c2
  go_wp2_with fail
  refine (q2 _).mono ?_
  rintro e w3 ⟨rfl, hb⟩
  have HA3 := Lib.hid (HA2.out.keep hb)
  have HB3 := Lib.hid (HB2.out.trans (hb.mono HB2.out.size))
  clear hb d2
  go_wp2_with fail
  rw [rounds_succ]
  have d3 := HA3.out.c3
  go_wp2_with fail
  refine (q3 _).mono ?_
  rintro e w4 ⟨rfl, hb⟩
  have HA4 := Lib.hid (HA3.out.keep hb)
  have HB4 := Lib.hid (HB3.out.trans (hb.mono HB3.out.size))
  clear hb d3
  go_wp2_with fail
  go_ret
  exact ⟨rfl, HB4.out⟩

theorem right_5 (W : Int) (r : Bool) (A S D : Int) (w : World)
    (q0 : ∀ w, Calls Try.prog 67 #[acc W r A S D] w fun e w' => e = .returned (.bool true) ∧ Below w.heap.size w w')
    (q1 : ∀ w, Calls Try.prog 68 #[acc W r A S D] w fun e w' => e = .returned (.bool true) ∧ Below w.heap.size w w')
    (q2 : ∀ w, Calls Try.prog 69 #[acc W r A S D] w fun e w' => e = .returned (.bool true) ∧ Below w.heap.size w w')
    (q3 : ∀ w, Calls Try.prog 70 #[acc W r A S D] w fun e w' => e = .returned (.bool true) ∧ Below w.heap.size w w') :
    Calls Try.prog 50 #[acc W r A S D] w fun e w' => e = .returned (.bool true) ∧ Below w.heap.size w w' := by
  have hmf : ∀ (fn : Fn) (first cap : Array Value) (w : World), (Instr.makeFunc fn first cap).run Try.prog w = .ok (.func fn first cap) w := fun _ _ _ _ => rfl
  go_enter Try.func50, Try.ntmps50
  go_wp2_with fail
  obtain ⟨v, hv⟩ : ∃ v, v = acc W r A S D := ⟨_, rfl⟩
  obtain ⟨W0, hW0⟩ : ∃ X : World, X = (w.alloc (.cells #[.int .i64 W, .bool r, .int .u32 A, .int .i64 S, .int .u32 D] 75)).alloc (.cells #[.func (.func 67) #[v] #[], .func (.func 68) #[v] #[], .func (.func 69) #[v] #[], .func (.func 70) #[v] #[]] 29) := ⟨_, rfl⟩
  have hA := asks_new w v _ _ rfl W0 hW0
  subst hv
  rw [← hW0]
  obtain ⟨g, hg⟩ : ∃ g, w.heap.size + 1 = g := ⟨_, rfl⟩
  rw [hg] at hA
  rw [hg]
  have HA := Lib.hid hA.1
  have HB := Lib.hid hA.2
  clear hA hg hW0
  refine wp_loop_rounds 5 ?_
  rw [rounds_succ]
  have d0 := HA.out.c0
  go_wp2_with fail
  refine (q0 _).mono ?_
  rintro e w1 ⟨rfl, hb⟩
  have HA1 := Lib.hid (HA.out.keep hb)
  have HB1 := Lib.hid (HB.out.trans (hb.mono HB.out.size))
  clear hb d0
  go_wp2_with fail
  rw [rounds_succ]
  have d1 := HA1.out.c1
  go_wp2_with fail
  refine (q1 _).mono ?_
  rintro e w2 ⟨rfl, hb⟩
  have HA2 := Lib.hid (HA1.out.keep hb)
  have HB2 := Lib.hid (HB1.out.trans (hb.mono HB1.out.size))
  clear hb d1
  go_wp2_with fail
  rw [rounds_succ]
  have d2 := HA2.out.c2
  go_wp2_with fail
  refine (q2 _).mono ?_
  rintro e w3 ⟨rfl, hb⟩
  have HA3 := Lib.hid (HA2.out.keep hb)
  have HB3 := Lib.hid (HB2.out.trans (hb.mono HB2.out.size))
  clear hb d2
  go_wp2_with fail
  rw [rounds_succ]
  have d3 := HA3.out.c3
  go_wp2_with fail
  refine (q3 _).mono ?_
  rintro e w4 ⟨rfl, hb⟩
  have HA4 := Lib.hid (HA3.out.keep hb)
  have HB4 := Lib.hid (HB3.out.trans (hb.mono HB3.out.size))
  clear hb d3
  go_wp2_with fail
  rw [rounds_succ]
  go_wp2_with fail
  go_ret
  exact ⟨rfl, HB4.out⟩

theorem right_any (W : Int) (r : Bool) (A S D : Int) (b : Bool) (w : World) (hA : 0 ≤ A) (hA' : A < 4294967296) (hD : 0 ≤ D) (hD' : D < 4294967296) (hb : rightB W r A S D = b) :
    Calls Try.prog 50 #[acc W r A S D] w fun e w' => e = .returned (.bool b) ∧ Below w.heap.size w w' := by
  subst hb
  unfold rightB
  cases h1 : wdB W
  · exact right_1 W r A S D w (fun w => ofWorld_any W r A S D _ w h1)
  cases h2 : Lane.alB A S
  · exact right_2 W r A S D w (fun w => ofWorld_any W r A S D _ w h1) (fun w => raligned_any W r A S D _ w hA hA' h2)
  cases h3 : fitB D S
  · exact right_3 W r A S D w (fun w => ofWorld_any W r A S D _ w h1) (fun w => raligned_any W r A S D _ w hA hA' h2) (fun w => fits_any W r A S D _ w hD hD' h3)
  cases h4 : silB r D
  · exact right_4 W r A S D w (fun w => ofWorld_any W r A S D _ w h1) (fun w => raligned_any W r A S D _ w hA hA' h2) (fun w => fits_any W r A S D _ w hD hD' h3) (fun w => silent_any W r A S D _ w h4)
  · exact right_5 W r A S D w (fun w => ofWorld_any W r A S D _ w h1) (fun w => raligned_any W r A S D _ w hA hA' h2) (fun w => fits_any W r A S D _ w hD hD' h3) (fun w => silent_any W r A S D _ w h4)

theorem Right_any (W : Int) (r : Bool) (A S D : Int) (b : Bool) (w : World) (hA : 0 ≤ A) (hA' : A < 4294967296) (hD : 0 ≤ D) (hD' : D < 4294967296) (hb : rightB W r A S D = b) :
    Calls Try.prog 33 #[acc W r A S D] w fun e w' => e = .returned (.bool b) ∧ Below w.heap.size w w' := by
  have R := fun w => right_any W r A S D b w hA hA' hD hD' hb
  clear hb
  go_enter Try.func33, Try.ntmps33
  go_wp2_with fail
  refine (R _).mono ?_
  rintro e w1 ⟨rfl, hb⟩
  have Hb := Lib.hid (((Below.refl w.heap.size w).alloc (Nat.le_refl _) _).trans (hb.mono (by simp)))
  clear hb
  go_wp2_with fail
  go_ret
  exact ⟨rfl, Hb.out⟩
end Go.Proofs.Ytfpammfcchboaaa.Access
/- Contracts: the document's Right; an access in a block. -/
namespace Go.Proofs.Ytfpammfcchboaaa.Access
open Go.RowKit
set_option linter.unusedVariables false

/-- An access in a block. -/
structure Five (w : World) (b : Nat) (W : Int) (r : Bool) (A S D : Int) : Prop where
  c0 : w.cell? ⟨b, 0, none⟩ = some (.int .i64 W)
  c1 : w.cell? ⟨b, 1, none⟩ = some (.bool r)
  c2 : w.cell? ⟨b, 2, none⟩ = some (.int .u32 A)
  c3 : w.cell? ⟨b, 3, none⟩ = some (.int .i64 S)
  c4 : w.cell? ⟨b, 4, none⟩ = some (.int .u32 D)
theorem Five.keep {w w' : World} {b : Nat} {W : Int} {r : Bool} {A S D : Int} (h : Five w b W r A S D) (hb : Below w.heap.size w w') : Five w' b W r A S D :=
  ⟨cell_keep hb h.c0, cell_keep hb h.c1, cell_keep hb h.c2, cell_keep hb h.c3, cell_keep hb h.c4⟩
theorem Five.alloc {w : World} {b : Nat} {W : Int} {r : Bool} {A S D : Int} (h : Five w b W r A S D) (o : Obj) : Five (w.alloc o) b W r A S D := h.keep ((Below.refl _ _).alloc (Nat.le_refl _) o)
theorem five_new (w : World) (W : Int) (r : Bool) (A S D : Int) (t : TypeId) : Five (w.alloc (.cells #[.int .i64 W, .bool r, .int .u32 A, .int .i64 S, .int .u32 D] t)) w.heap.size W r A S D :=
  ⟨World.cell?_alloc_at _ _ _ 0 rfl, World.cell?_alloc_at _ _ _ 1 rfl, World.cell?_alloc_at _ _ _ 2 rfl, World.cell?_alloc_at _ _ _ 3 rfl, World.cell?_alloc_at _ _ _ 4 rfl⟩
theorem rlow_q (v n lv : Int) (b : Bool) (w : World) (hv : 0 ≤ v) (hv' : v < 4294967296) (hl : Word.lowV v n = lv) (hb : Word.sizeB n = b) :
    Calls Try.prog 72 #[.int .u32 v, .int .i64 n] w fun e w' => e = .returned (.tuple #[.int .u32 lv, .bool b]) ∧ Below w.heap.size w w' := by
  subst hl; subst hb
  obtain ⟨x, rfl⟩ := Int.eq_ofNat_of_zero_le hv
  by_cases h : Word.sizeB n = true
  · obtain ⟨m, rfl⟩ : ∃ m : Nat, n = m := by
      rcases Word.sizeB_yes h with rfl | rfl | rfl
      · exact ⟨1, rfl⟩
      · exact ⟨2, rfl⟩
      · exact ⟨4, rfl⟩
    rw [h]
    exact Word.rlow_any x m (by omega) h w
  · have h' : Word.sizeB n = false := by simpa using h
    have f := Word.sizeB_false h'
    have e : Word.lowV x n = 0 := by unfold Word.lowV; rw [if_neg f.1, if_neg f.2.1, if_neg f.2.2]
    rw [h', e]
    exact Word.rlow_no x n w h'

theorem rRight_w0 (W : Int) (r : Bool) (A S D lv : Int) (is al : Bool) (w : World) (h1 : ¬ 0 ≤ W)
    (Lo : ∀ w, Calls Try.prog 72 #[.int .u32 D, .int .i64 S] w fun e w' => e = .returned (.tuple #[.int .u32 lv, .bool is]) ∧ Below w.heap.size w w')
    (Al : ∀ w, Calls Try.prog 73 #[.int .u32 A, .int .i64 S] w fun e w' => e = .returned (.bool al) ∧ w = w') :
    Calls Try.prog 58 #[acc W r A S D] w fun e w' => e = .returned (.bool false) ∧ Below w.heap.size w w' := by
  go_enter Try.func58, Try.ntmps58
  go_wp2_with fail
  refine (Lo _).mono ?_
  rintro e w1 ⟨rfl, hb⟩
  obtain ⟨k0, k1, k2, k3, k4⟩ := (five_new w W r A S D _).keep hb
  have Hb := Lib.hid (((Below.refl w.heap.size w).alloc (Nat.le_refl _) _).trans (hb.mono (by simp)))
  clear hb
  go_wp2_with fail
  go_ret
  exact ⟨rfl, Hb.out⟩

theorem rRight_w8 (W : Int) (r : Bool) (A S D lv : Int) (is al : Bool) (w : World) (h1 : 0 ≤ W) (h2 : ¬ W < 8)
    (Lo : ∀ w, Calls Try.prog 72 #[.int .u32 D, .int .i64 S] w fun e w' => e = .returned (.tuple #[.int .u32 lv, .bool is]) ∧ Below w.heap.size w w')
    (Al : ∀ w, Calls Try.prog 73 #[.int .u32 A, .int .i64 S] w fun e w' => e = .returned (.bool al) ∧ w = w') :
    Calls Try.prog 58 #[acc W r A S D] w fun e w' => e = .returned (.bool false) ∧ Below w.heap.size w w' := by
  go_enter Try.func58, Try.ntmps58
  go_wp2_with fail
  refine (Lo _).mono ?_
  rintro e w1 ⟨rfl, hb⟩
  obtain ⟨k0, k1, k2, k3, k4⟩ := (five_new w W r A S D _).keep hb
  have Hb := Lib.hid (((Below.refl w.heap.size w).alloc (Nat.le_refl _) _).trans (hb.mono (by simp)))
  clear hb
  go_wp2_with fail
  go_ret
  exact ⟨rfl, Hb.out⟩

theorem rRight_al (W : Int) (r : Bool) (A S D lv : Int) (is al : Bool) (w : World) (h1 : 0 ≤ W) (h2 : W < 8)
    (Lo : ∀ w, Calls Try.prog 72 #[.int .u32 D, .int .i64 S] w fun e w' => e = .returned (.tuple #[.int .u32 lv, .bool is]) ∧ Below w.heap.size w w')
    (Al : ∀ w, Calls Try.prog 73 #[.int .u32 A, .int .i64 S] w fun e w' => e = .returned (.bool false) ∧ w = w') :
    Calls Try.prog 58 #[acc W r A S D] w fun e w' => e = .returned (.bool false) ∧ Below w.heap.size w w' := by
  go_enter Try.func58, Try.ntmps58
  go_wp2_with fail
  refine (Lo _).mono ?_
  rintro e w1 ⟨rfl, hb⟩
  obtain ⟨k0, k1, k2, k3, k4⟩ := (five_new w W r A S D _).keep hb
  have Hb := Lib.hid (((Below.refl w.heap.size w).alloc (Nat.le_refl _) _).trans (hb.mono (by simp)))
  clear hb
  go_wp2_with fail
  refine (Al _).mono ?_
  rintro e w2 ⟨rfl, rfl⟩
  go_wp2_with fail
  go_ret
  exact ⟨rfl, Hb.out⟩

theorem rRight_is (W : Int) (r : Bool) (A S D lv : Int) (is al : Bool) (w : World) (h1 : 0 ≤ W) (h2 : W < 8)
    (Lo : ∀ w, Calls Try.prog 72 #[.int .u32 D, .int .i64 S] w fun e w' => e = .returned (.tuple #[.int .u32 lv, .bool false]) ∧ Below w.heap.size w w')
    (Al : ∀ w, Calls Try.prog 73 #[.int .u32 A, .int .i64 S] w fun e w' => e = .returned (.bool true) ∧ w = w') :
    Calls Try.prog 58 #[acc W r A S D] w fun e w' => e = .returned (.bool false) ∧ Below w.heap.size w w' := by
  go_enter Try.func58, Try.ntmps58
  go_wp2_with fail
  refine (Lo _).mono ?_
  rintro e w1 ⟨rfl, hb⟩
  obtain ⟨k0, k1, k2, k3, k4⟩ := (five_new w W r A S D _).keep hb
  have Hb := Lib.hid (((Below.refl w.heap.size w).alloc (Nat.le_refl _) _).trans (hb.mono (by simp)))
  clear hb
  go_wp2_with fail
  refine (Al _).mono ?_
  rintro e w2 ⟨rfl, rfl⟩
  go_wp2_with fail
  go_ret
  exact ⟨rfl, Hb.out⟩

theorem rRight_lv (W : Int) (r : Bool) (A S D lv : Int) (is al : Bool) (w : World) (h1 : 0 ≤ W) (h2 : W < 8) (h3 : ¬ lv = D)
    (Lo : ∀ w, Calls Try.prog 72 #[.int .u32 D, .int .i64 S] w fun e w' => e = .returned (.tuple #[.int .u32 lv, .bool true]) ∧ Below w.heap.size w w')
    (Al : ∀ w, Calls Try.prog 73 #[.int .u32 A, .int .i64 S] w fun e w' => e = .returned (.bool true) ∧ w = w') :
    Calls Try.prog 58 #[acc W r A S D] w fun e w' => e = .returned (.bool false) ∧ Below w.heap.size w w' := by
  go_enter Try.func58, Try.ntmps58
  go_wp2_with fail
  refine (Lo _).mono ?_
  rintro e w1 ⟨rfl, hb⟩
  obtain ⟨k0, k1, k2, k3, k4⟩ := (five_new w W r A S D _).keep hb
  have Hb := Lib.hid (((Below.refl w.heap.size w).alloc (Nat.le_refl _) _).trans (hb.mono (by simp)))
  clear hb
  go_wp2_with fail
  refine (Al _).mono ?_
  rintro e w2 ⟨rfl, rfl⟩
  go_wp2_with fail
  go_ret
  exact ⟨rfl, Hb.out⟩

theorem rRight_yes (W : Int) (r : Bool) (A S D lv : Int) (is al : Bool) (w : World) (h1 : 0 ≤ W) (h2 : W < 8)
    (Lo : ∀ w, Calls Try.prog 72 #[.int .u32 D, .int .i64 S] w fun e w' => e = .returned (.tuple #[.int .u32 D, .bool true]) ∧ Below w.heap.size w w')
    (Al : ∀ w, Calls Try.prog 73 #[.int .u32 A, .int .i64 S] w fun e w' => e = .returned (.bool true) ∧ w = w') :
    Calls Try.prog 58 #[acc W true A S D] w fun e w' => e = .returned (.bool true) ∧ Below w.heap.size w w' := by
  go_enter Try.func58, Try.ntmps58
  go_wp2_with fail
  refine (Lo _).mono ?_
  rintro e w1 ⟨rfl, hb⟩
  obtain ⟨k0, k1, k2, k3, k4⟩ := (five_new w W true A S D _).keep hb
  have Hb := Lib.hid (((Below.refl w.heap.size w).alloc (Nat.le_refl _) _).trans (hb.mono (by simp)))
  clear hb
  go_wp2_with fail
  refine (Al _).mono ?_
  rintro e w2 ⟨rfl, rfl⟩
  go_wp2_with fail
  go_ret
  exact ⟨rfl, Hb.out⟩

theorem rRight_no (W : Int) (r : Bool) (A S D lv : Int) (is al : Bool) (w : World) (h1 : 0 ≤ W) (h2 : W < 8)
    (Lo : ∀ w, Calls Try.prog 72 #[.int .u32 D, .int .i64 S] w fun e w' => e = .returned (.tuple #[.int .u32 D, .bool true]) ∧ Below w.heap.size w w')
    (Al : ∀ w, Calls Try.prog 73 #[.int .u32 A, .int .i64 S] w fun e w' => e = .returned (.bool true) ∧ w = w') :
    Calls Try.prog 58 #[acc W false A S D] w fun e w' => e = .returned (.bool (decide (D = 0))) ∧ Below w.heap.size w w' := by
  go_enter Try.func58, Try.ntmps58
  go_wp2_with fail
  refine (Lo _).mono ?_
  rintro e w1 ⟨rfl, hb⟩
  obtain ⟨k0, k1, k2, k3, k4⟩ := (five_new w W false A S D _).keep hb
  have Hb := Lib.hid (((Below.refl w.heap.size w).alloc (Nat.le_refl _) _).trans (hb.mono (by simp)))
  clear hb
  go_wp2_with fail
  refine (Al _).mono ?_
  rintro e w2 ⟨rfl, rfl⟩
  go_wp2_with fail
  go_ret
  exact ⟨ret_bool (by rw [Bool.eq_iff_iff]; simp), Hb.out⟩

theorem rRight_any (W : Int) (r : Bool) (A S D : Int) (b : Bool) (w : World) (hA : 0 ≤ A) (hA' : A < 4294967296) (hD : 0 ≤ D) (hD' : D < 4294967296) (hb : rightB W r A S D = b) :
    Calls Try.prog 58 #[acc W r A S D] w fun e w' => e = .returned (.bool b) ∧ Below w.heap.size w w' := by
  obtain ⟨lv, hl⟩ : ∃ v, Word.lowV D S = v := ⟨_, rfl⟩
  obtain ⟨is, hs⟩ : ∃ v, Word.sizeB S = v := ⟨_, rfl⟩
  obtain ⟨al, ha⟩ : ∃ v, Lane.alB A S = v := ⟨_, rfl⟩
  have Lo := fun w => rlow_q D S lv is w hD hD' hl hs
  have Al := fun w => Lane.rAligned_any A S al w hA hA' ha
  unfold rightB fitB silB wdB at hb
  rw [hl, hs, ha] at hb
  clear hl hs ha
  by_cases h1 : 0 ≤ W
  · by_cases h2 : W < 8
    · have e : decide (0 ≤ W ∧ W < 8) = true := decide_eq_true ⟨h1, h2⟩
      rw [e] at hb
      cases al
      · simp at hb; subst hb; exact rRight_al W r A S D lv is true w h1 h2 Lo Al
      cases is
      · simp at hb; subst hb; exact rRight_is W r A S D lv true true w h1 h2 Lo Al
      by_cases h3 : lv = D
      · subst h3
        cases r
        · simp at hb; subst hb; exact rRight_no W true A S lv lv true true w h1 h2 Lo Al
        · simp at hb; subst hb; exact rRight_yes W true A S lv lv true true w h1 h2 Lo Al
      · simp [h3] at hb; subst hb; exact rRight_lv W r A S D lv true true w h1 h2 h3 Lo Al
    · have e : decide (0 ≤ W ∧ W < 8) = false := decide_eq_false (by omega)
      rw [e] at hb; simp at hb; subst hb
      exact rRight_w8 W r A S D lv is al w h1 h2 Lo Al
  · have e : decide (0 ≤ W ∧ W < 8) = false := decide_eq_false (by omega)
    rw [e] at hb; simp at hb; subst hb
    exact rRight_w0 W r A S D lv is al w h1 Lo Al
end Go.Proofs.Ytfpammfcchboaaa.Access
/- Contracts: the reach of an access, both ways. -/
namespace Go.Proofs.Ytfpammfcchboaaa.Access
open Go.RowKit
set_option linter.unusedVariables false

/-- The ends of what is told of a reach. -/
def reF (b : Bool) (A : Int) : Int := if b then A else 0
def reT (b : Bool) (A S : Int) : Int := if b then A + S - 1 else 0
theorem right_top {W : Int} {r : Bool} {A S D : Int} (h : rightB W r A S D = true) (h1 : A < 4294967296) : A + S ≤ 4294967296 := by
  obtain ⟨_, _, hs, ha, _⟩ := right_parts h
  rcases hs with rfl | rfl | rfl <;> omega
theorem of_right {W : Int} {r : Bool} {A S D : Int} (h : rightB W r A S D = true) (h0 : 0 ≤ A) (h1 : A < 4294967296) :
    Reach.ofF A S = reF true A ∧ Reach.ofT A S = reT true A S ∧ Reach.ofB A S = true ∧ -9223372036854775808 ≤ S ∧ S ≤ 9223372036854775807 := by
  have ht := right_top h h1
  obtain ⟨_, _, hs, _⟩ := right_parts h
  have e : 1 ≤ S ∧ A + S ≤ 4294967296 := by omega
  exact ⟨if_pos e, if_pos e, decide_eq_true e, by omega, by omega⟩

theorem Reach_no (W : Int) (r : Bool) (A S D : Int) (w : World)
    (R : ∀ w, Calls Try.prog 33 #[acc W r A S D] w fun e w' => e = .returned (.bool false) ∧ Below w.heap.size w w') :
    Calls Try.prog 15 #[acc W r A S D] w fun e w' => e = .returned (.tuple #[.agg #[.int .u32 0, .int .u32 0], .bool false]) ∧ Below w.heap.size w w' := by
  go_enter Try.func15, Try.ntmps15
  go_wp2_with fail
  refine (R _).mono ?_
  rintro e w1 ⟨rfl, hb⟩
  obtain ⟨hc, hf⟩ := Reach.bcell hb
  have Hb := Lib.hid ((((Below.refl w.heap.size w).alloc (Nat.le_refl _) _).alloc (by simp) _).trans (hb.mono (by simp; omega)))
  clear hb
  go_wp2_with fail
  refine bodyPost_ret (v := .tuple #[.agg #[.int .u32 0, .int .u32 0], .bool false]) ?_ rfl ⟨rfl, (Hb.out.setCell (by simp) _).setCell (by simp) _⟩
  have h0 := hc (w.heap.size + 1) 0 (by simp)
  have h1 := hc (w.heap.size + 1) 1 (by simp)
  simp [results, Try.results15, go_sem, h0, h1]
theorem Reach_yes (W : Int) (r : Bool) (A S D f t : Int) (b : Bool) (w : World)
    (R : ∀ w, Calls Try.prog 33 #[acc W r A S D] w fun e w' => e = .returned (.bool true) ∧ Below w.heap.size w w')
    (O : ∀ w, Calls Try.prog 34 #[.int .u32 A, .int .i64 S] w fun e w' => e = .returned (.tuple #[.agg #[.int .u32 f, .int .u32 t], .bool b]) ∧ Below w.heap.size w w') :
    Calls Try.prog 15 #[acc W r A S D] w fun e w' => e = .returned (.tuple #[.agg #[.int .u32 f, .int .u32 t], .bool b]) ∧ Below w.heap.size w w' := by
  go_enter Try.func15, Try.ntmps15
  go_wp2_with fail
  refine (R _).mono ?_
  rintro e w1 ⟨rfl, hb⟩
  obtain ⟨hc, hf⟩ := Reach.bcell hb
  obtain ⟨k0, k1, k2, k3, k4⟩ := ((five_new w W r A S D _).alloc _).keep hb
  have h0 := hc (w.heap.size + 1) 0 (by simp)
  have h1 := hc (w.heap.size + 1) 1 (by simp)
  have f0 := hf (w.heap.size + 1) 0 (by simp)
  have f1 := hf (w.heap.size + 1) 1 (by simp)
  simp [go_sem] at h0 h1 f0 f1
  have hsz := hb.size
  have Hb := Lib.hid ((((Below.refl w.heap.size w).alloc (Nat.le_refl _) _).alloc (by simp) _).trans (hb.mono (by simp; omega)))
  clear hb hc hf
  have hlt : w.heap.size + 1 < w1.heap.size := by simp at hsz; omega
  clear hsz
  go_wp2_with fail
  refine (O _).mono ?_
  rintro e w2 ⟨rfl, hb⟩
  obtain ⟨hc, hf⟩ := Reach.bcell hb
  have h0 := (hc (w.heap.size + 1) 0 hlt).trans h0
  have h1 := (hc (w.heap.size + 1) 1 hlt).trans h1
  have f0 := (hf (w.heap.size + 1) 0 hlt).trans f0
  have f1 := (hf (w.heap.size + 1) 1 hlt).trans f1
  have Hb2 := Lib.hid (Hb.out.trans (hb.mono Hb.out.size))
  clear hb hc hf k0 k1 k2 k3 k4
  go_wp2_with fail
  refine bodyPost_ret (v := .tuple #[.agg #[.int .u32 f, .int .u32 t], .bool b]) ?_ rfl ⟨rfl, (Hb2.out.setCell (by simp) _).setCell (by simp) _⟩
  simp [results, Try.results15, go_sem, h0, h1]
theorem Reach_any (W : Int) (r : Bool) (A S D f t : Int) (b : Bool) (w : World) (hA : 0 ≤ A) (hA' : A < 4294967296) (hD : 0 ≤ D) (hD' : D < 4294967296) (hb : rightB W r A S D = b) (hf : reF b A = f) (ht : reT b A S = t) :
    Calls Try.prog 15 #[acc W r A S D] w fun e w' => e = .returned (.tuple #[.agg #[.int .u32 f, .int .u32 t], .bool b]) ∧ Below w.heap.size w w' := by
  subst hf; subst ht
  cases b
  · exact Reach_no W r A S D w (fun w => Right_any W r A S D _ w hA hA' hD hD' hb)
  · obtain ⟨e1, e2, e3, s0, s1⟩ := of_right hb hA hA'
    refine Reach_yes W r A S D _ _ true w (fun w => Right_any W r A S D _ w hA hA' hD hD' hb) (fun w => ?_)
    have := Reach.Of_any A S w hA hA' s0 s1
    rw [e1, e2, e3] at this
    exact this

theorem rReach_no (W : Int) (r : Bool) (A S D : Int) (w : World)
    (R : ∀ w, Calls Try.prog 58 #[acc W r A S D] w fun e w' => e = .returned (.bool false) ∧ Below w.heap.size w w') :
    Calls Try.prog 44 #[acc W r A S D] w fun e w' => e = .returned (.tuple #[.agg #[.int .u32 0, .int .u32 0], .bool false]) ∧ Below w.heap.size w w' := by
  go_enter Try.func44, Try.ntmps44
  go_wp2_with fail
  refine (R _).mono ?_
  rintro e w1 ⟨rfl, hb⟩
  obtain ⟨hc, hf⟩ := Reach.bcell hb
  have Hb := Lib.hid ((((Below.refl w.heap.size w).alloc (Nat.le_refl _) _).alloc (by simp) _).trans (hb.mono (by simp; omega)))
  clear hb
  go_wp2_with fail
  refine bodyPost_ret (v := .tuple #[.agg #[.int .u32 0, .int .u32 0], .bool false]) ?_ rfl ⟨rfl, (Hb.out.setCell (by simp) _).setCell (by simp) _⟩
  have h0 := hc (w.heap.size + 1) 0 (by simp)
  have h1 := hc (w.heap.size + 1) 1 (by simp)
  simp [results, Try.results44, go_sem, h0, h1]
theorem rReach_yes (W : Int) (r : Bool) (A S D f t : Int) (b : Bool) (w : World)
    (R : ∀ w, Calls Try.prog 58 #[acc W r A S D] w fun e w' => e = .returned (.bool true) ∧ Below w.heap.size w w')
    (O : ∀ w, Calls Try.prog 43 #[.int .u32 A, .int .i64 S] w fun e w' => e = .returned (.tuple #[.agg #[.int .u32 f, .int .u32 t], .bool b]) ∧ Below w.heap.size w w') :
    Calls Try.prog 44 #[acc W r A S D] w fun e w' => e = .returned (.tuple #[.agg #[.int .u32 f, .int .u32 t], .bool b]) ∧ Below w.heap.size w w' := by
  go_enter Try.func44, Try.ntmps44
  go_wp2_with fail
  refine (R _).mono ?_
  rintro e w1 ⟨rfl, hb⟩
  obtain ⟨hc, hf⟩ := Reach.bcell hb
  obtain ⟨k0, k1, k2, k3, k4⟩ := ((five_new w W r A S D _).alloc _).keep hb
  have h0 := hc (w.heap.size + 1) 0 (by simp)
  have h1 := hc (w.heap.size + 1) 1 (by simp)
  have f0 := hf (w.heap.size + 1) 0 (by simp)
  have f1 := hf (w.heap.size + 1) 1 (by simp)
  simp [go_sem] at h0 h1 f0 f1
  have hsz := hb.size
  have Hb := Lib.hid ((((Below.refl w.heap.size w).alloc (Nat.le_refl _) _).alloc (by simp) _).trans (hb.mono (by simp; omega)))
  clear hb hc hf
  have hlt : w.heap.size + 1 < w1.heap.size := by simp at hsz; omega
  clear hsz
  go_wp2_with fail
  refine (O _).mono ?_
  rintro e w2 ⟨rfl, hb⟩
  obtain ⟨hc, hf⟩ := Reach.bcell hb
  have h0 := (hc (w.heap.size + 1) 0 hlt).trans h0
  have h1 := (hc (w.heap.size + 1) 1 hlt).trans h1
  have f0 := (hf (w.heap.size + 1) 0 hlt).trans f0
  have f1 := (hf (w.heap.size + 1) 1 hlt).trans f1
  have Hb2 := Lib.hid (Hb.out.trans (hb.mono Hb.out.size))
  clear hb hc hf k0 k1 k2 k3 k4
  go_wp2_with fail
  refine bodyPost_ret (v := .tuple #[.agg #[.int .u32 f, .int .u32 t], .bool b]) ?_ rfl ⟨rfl, (Hb2.out.setCell (by simp) _).setCell (by simp) _⟩
  simp [results, Try.results44, go_sem, h0, h1]
theorem rReach_any (W : Int) (r : Bool) (A S D f t : Int) (b : Bool) (w : World) (hA : 0 ≤ A) (hA' : A < 4294967296) (hD : 0 ≤ D) (hD' : D < 4294967296) (hb : rightB W r A S D = b) (hf : reF b A = f) (ht : reT b A S = t) :
    Calls Try.prog 44 #[acc W r A S D] w fun e w' => e = .returned (.tuple #[.agg #[.int .u32 f, .int .u32 t], .bool b]) ∧ Below w.heap.size w w' := by
  subst hf; subst ht
  cases b
  · exact rReach_no W r A S D w (fun w => rRight_any W r A S D _ w hA hA' hD hD' hb)
  · obtain ⟨e1, e2, e3, s0, s1⟩ := of_right hb hA hA'
    refine rReach_yes W r A S D _ _ true w (fun w => rRight_any W r A S D _ w hA hA' hD hD' hb) (fun w => ?_)
    have := Reach.rOf_any A S w hA hA' s0 s1
    rw [e1, e2, e3] at this
    exact this

end Go.Proofs.Ytfpammfcchboaaa.Access
