/- Package timer's contracts. Tim w b s O: the timer in block b has the words s; O: the blocks that are its own. -/
import Derived.Test.YthfckoemldhoaaaNz
namespace Go.Proofs.Ythfckoemldhoaaa.Timer
open Go.RowKit Go.Maps Go.ChangeShapes Go.WideShapes Go.ChangeAt Fifo Orow Word Fmap
set_option linter.unusedVariables false

abbrev me (b : Nat) : Value := .pointer (some ⟨b, 0, none⟩)
def Tim (w : World) (b : Nat) (s : St) (O : Nat → Prop) : Prop := TW w b s (me b) ∧ ∀ j, O j ↔ j = b
theorem Tim.only {S O : Nat → Prop} {w w' : World} {b : Nat} {s : St} (h : Tim w b s O) (ho : Only S w w') (hn : ∀ j, O j → ¬ S j) : Tim w' b s O := ⟨h.1.only ho (hn b ((h.2 b).2 rfl)), h.2⟩
theorem Tim.keep {O : Nat → Prop} {w w' : World} {b : Nat} {s : St} (h : Tim w b s O) (hb : Below w.heap.size w w') : Tim w' b s O := ⟨h.1.keep hb, h.2⟩
theorem Tim.lt {O : Nat → Prop} {w : World} {b : Nat} {s : St} (h : Tim w b s O) : ∀ j, O j → j < w.heap.size := fun j hj => by rw [(h.2 j).1 hj]; exact h.1.blk.lt
theorem Tim.ok {O : Nat → Prop} {w : World} {b : Nat} {s : St} (h : Tim w b s O) : OkS s ∧ s.K < 8 := ⟨h.1.ok, h.1.k8⟩
theorem New_any (w : World) :
    Calls Try.prog 15 #[] w fun e w' => (∃ b O, e = .returned (.pointer (some ⟨b, 0, none⟩)) ∧ Tim w' b zeroS O ∧ ∀ j, O j → w.heap.size ≤ j) ∧ Below w.heap.size w w' := by
  refine (New_any0 w).mono ?_
  rintro e w' ⟨⟨b, rfl, h1, h2⟩, hb⟩
  exact ⟨⟨b, fun j => j = b, rfl, ⟨h1, fun j => Iff.rfl⟩, fun j e => by have : j = b := e; omega⟩, hb⟩
theorem Of_any (s : St) (w : World) (h : OkS s) :
    Calls Try.prog 8 #[stv s] w fun e w' => (∃ b O, e = .returned (.pointer (some ⟨b, 0, none⟩)) ∧ Tim w' b (ofS s) O ∧ ∀ j, O j → w.heap.size ≤ j) ∧ Below w.heap.size w w' := by
  refine (Of_any0 s w h).mono ?_
  rintro e w' ⟨⟨b, rfl, h1, h2⟩, hb⟩
  exact ⟨⟨b, fun j => j = b, rfl, ⟨h1, fun j => Iff.rfl⟩, fun j e => by have : j = b := e; omega⟩, hb⟩
theorem fzero_r (w : World) : (zeroValue 55).run Try.prog w = .ok .nilFunc w := by kernel_rfl
theorem fzero_w (w : World) : (zeroValue 51).run Try.prog w = .ok .nilFunc w := by kernel_rfl
theorem look_r {w : World} {g b : Nat} (h : FM Try.prog 3 .i64 w g (readL b)) (k : Int) (hk : I64 k) : (Instr.lookup 57 (.map (some g)) (.int .i64 k) true).run Try.prog w = .ok (.tuple #[(atR (readL b) k).getD .nilFunc, .bool (atR (readL b) k).isSome]) w :=
  h.look keyK Try.underlying57 (fzero_r w) k (key_mk k hk)
theorem look_w {w : World} {g b : Nat} (h : FM Try.prog 3 .i64 w g (writeL b)) (k : Int) (hk : I64 k) : (Instr.lookup 53 (.map (some g)) (.int .i64 k) true).run Try.prog w = .ok (.tuple #[(atR (writeL b) k).getD .nilFunc, .bool (atR (writeL b) k).isSome]) w :=
  h.look keyK Try.underlying53 (fzero_w w) k (key_mk k hk)
theorem read_0 (v : Value) (s : St) (x : Value) (w : World) (ht : Calls Try.prog 22 #[v] w fun e w' => (∃ b, e = .returned (me b) ∧ TW w' b s x) ∧ Below w.heap.size w w') :
    Calls Try.prog 17 #[v, .int .i64 0] w fun e w' => e = .returned (.int .u32 s.C) ∧ Below w.heap.size w w' := by
  have hr : I64 0 := ⟨by decide, by decide⟩
  have T := Lib.hid ht
  have Kr := Lib.hid hr
  clear ht hr
  go_enter Try.func17, Try.ntmps17
  go_wp2_with fail
  refine T.out.mono ?_
  rintro e w1 ⟨⟨b, rfl, h1⟩, hb1⟩
  have T1 := Lib.hid h1
  have B1 := Lib.hid hb1
  clear h1 hb1
  go_wp2_with fail
  refine (reads_any b w1).mono ?_
  rintro e w2 ⟨⟨g, rfl, hm⟩, hb⟩
  have T2 := Lib.hid (T1.out.keep hb)
  have B2 := Lib.hid (B1.out.trans (hb.mono B1.out.size))
  have lk := look_r hm _ Kr.out
  clear hm hb
  rw [show atR (readL b) 0 = some (meth 37 b) from rfl] at lk
  simp only [Option.getD_some, Option.isSome_some, meth] at lk
  go_wp2_with fail
  refine (countNow_any b s x w2 T2.out).mono ?_
  rintro e w3 ⟨rfl, rfl⟩
  go_wp2_with fail
  go_ret
  exact ⟨rfl, B2.out⟩
theorem read_1 (v : Value) (s : St) (x : Value) (w : World) (ht : Calls Try.prog 22 #[v] w fun e w' => (∃ b, e = .returned (me b) ∧ TW w' b s x) ∧ Below w.heap.size w w') :
    Calls Try.prog 17 #[v, .int .i64 1] w fun e w' => e = .returned (.int .u32 s.L) ∧ Below w.heap.size w w' := by
  have hr : I64 1 := ⟨by decide, by decide⟩
  have T := Lib.hid ht
  have Kr := Lib.hid hr
  clear ht hr
  go_enter Try.func17, Try.ntmps17
  go_wp2_with fail
  refine T.out.mono ?_
  rintro e w1 ⟨⟨b, rfl, h1⟩, hb1⟩
  have T1 := Lib.hid h1
  have B1 := Lib.hid hb1
  clear h1 hb1
  go_wp2_with fail
  refine (reads_any b w1).mono ?_
  rintro e w2 ⟨⟨g, rfl, hm⟩, hb⟩
  have T2 := Lib.hid (T1.out.keep hb)
  have B2 := Lib.hid (B1.out.trans (hb.mono B1.out.size))
  have lk := look_r hm _ Kr.out
  clear hm hb
  rw [show atR (readL b) 1 = some (meth 38 b) from rfl] at lk
  simp only [Option.getD_some, Option.isSome_some, meth] at lk
  go_wp2_with fail
  refine (limitNow_any b s x w2 T2.out).mono ?_
  rintro e w3 ⟨rfl, rfl⟩
  go_wp2_with fail
  go_ret
  exact ⟨rfl, B2.out⟩
theorem read_2 (v : Value) (s : St) (x : Value) (w : World) (ht : Calls Try.prog 22 #[v] w fun e w' => (∃ b, e = .returned (me b) ∧ TW w' b s x) ∧ Below w.heap.size w w') :
    Calls Try.prog 17 #[v, .int .i64 2] w fun e w' => e = .returned (.int .u32 s.K) ∧ Below w.heap.size w w' := by
  have hr : I64 2 := ⟨by decide, by decide⟩
  have T := Lib.hid ht
  have Kr := Lib.hid hr
  clear ht hr
  go_enter Try.func17, Try.ntmps17
  go_wp2_with fail
  refine T.out.mono ?_
  rintro e w1 ⟨⟨b, rfl, h1⟩, hb1⟩
  have T1 := Lib.hid h1
  have B1 := Lib.hid hb1
  clear h1 hb1
  go_wp2_with fail
  refine (reads_any b w1).mono ?_
  rintro e w2 ⟨⟨g, rfl, hm⟩, hb⟩
  have T2 := Lib.hid (T1.out.keep hb)
  have B2 := Lib.hid (B1.out.trans (hb.mono B1.out.size))
  have lk := look_r hm _ Kr.out
  clear hm hb
  rw [show atR (readL b) 2 = some (meth 39 b) from rfl] at lk
  simp only [Option.getD_some, Option.isSome_some, meth] at lk
  go_wp2_with fail
  refine (ctrlNow_any b s x w2 T2.out).mono ?_
  rintro e w3 ⟨rfl, rfl⟩
  go_wp2_with fail
  go_ret
  exact ⟨rfl, B2.out⟩
theorem read_3 (v : Value) (s : St) (x : Value) (w : World) (ht : Calls Try.prog 22 #[v] w fun e w' => (∃ b, e = .returned (me b) ∧ TW w' b s x) ∧ Below w.heap.size w w') :
    Calls Try.prog 17 #[v, .int .i64 3] w fun e w' => e = .returned (.int .u32 s.H) ∧ Below w.heap.size w w' := by
  have hr : I64 3 := ⟨by decide, by decide⟩
  have T := Lib.hid ht
  have Kr := Lib.hid hr
  clear ht hr
  go_enter Try.func17, Try.ntmps17
  go_wp2_with fail
  refine T.out.mono ?_
  rintro e w1 ⟨⟨b, rfl, h1⟩, hb1⟩
  have T1 := Lib.hid h1
  have B1 := Lib.hid hb1
  clear h1 hb1
  go_wp2_with fail
  refine (reads_any b w1).mono ?_
  rintro e w2 ⟨⟨g, rfl, hm⟩, hb⟩
  have T2 := Lib.hid (T1.out.keep hb)
  have B2 := Lib.hid (B1.out.trans (hb.mono B1.out.size))
  have lk := look_r hm _ Kr.out
  clear hm hb
  rw [show atR (readL b) 3 = some (meth 40 b) from rfl] at lk
  simp only [Option.getD_some, Option.isSome_some, meth] at lk
  go_wp2_with fail
  refine (hitsNow_any b s x w2 T2.out).mono ?_
  rintro e w3 ⟨rfl, rfl⟩
  go_wp2_with fail
  go_ret
  exact ⟨rfl, B2.out⟩
theorem atR_none {l : List (Int × Value)} {a0 a1 a2 a3 : Value} (e : l = [(3, a3), (2, a2), (1, a1), (0, a0)]) {k : Int} (h0 : ¬ k = 0) (h1 : ¬ k = 1) (h2 : ¬ k = 2) (h3 : ¬ k = 3) : atR l k = none := by
  subst e
  simp only [atR]
  rw [if_neg h3, if_neg h2, if_neg h1, if_neg h0]
theorem read_4 (v : Value) (s : St) (x : Value) (reg : Int) (w : World) (hr : I64 reg) (h0 : ¬ reg = 0) (h1 : ¬ reg = 1) (h2 : ¬ reg = 2) (h3 : ¬ reg = 3) (ht : Calls Try.prog 22 #[v] w fun e w' => (∃ b, e = .returned (me b) ∧ TW w' b s x) ∧ Below w.heap.size w w') :
    Calls Try.prog 17 #[v, .int .i64 reg] w fun e w' => e = .returned (.int .u32 0) ∧ Below w.heap.size w w' := by
  have E := Lib.hid (fun b => atR_none (l := readL b) rfl h0 h1 h2 h3)
  clear h0 h1 h2 h3
  have T := Lib.hid ht
  have Kr := Lib.hid hr
  clear ht hr
  go_enter Try.func17, Try.ntmps17
  go_wp2_with fail
  refine T.out.mono ?_
  rintro e w1 ⟨⟨b, rfl, h1⟩, hb1⟩
  have T1 := Lib.hid h1
  have B1 := Lib.hid hb1
  clear h1 hb1
  go_wp2_with fail
  refine (reads_any b w1).mono ?_
  rintro e w2 ⟨⟨g, rfl, hm⟩, hb⟩
  have T2 := Lib.hid (T1.out.keep hb)
  have B2 := Lib.hid (B1.out.trans (hb.mono B1.out.size))
  have lk := look_r hm _ Kr.out
  clear hm hb
  rw [E.out b] at lk
  simp only [Option.getD_none, Option.isSome_none] at lk
  go_wp2_with fail
  go_ret
  exact ⟨rfl, B2.out⟩
theorem read_q (v : Value) (s : St) (x : Value) (reg : Int) (w : World) (hr : I64 reg) (ht : Calls Try.prog 22 #[v] w fun e w' => (∃ b, e = .returned (me b) ∧ TW w' b s x) ∧ Below w.heap.size w w') :
    Calls Try.prog 17 #[v, .int .i64 reg] w fun e w' => e = .returned (.int .u32 (readS s reg)) ∧ Below w.heap.size w w' := by
  rcases reg_cases reg with rfl | rfl | rfl | rfl | ⟨h0, h1, h2, h3⟩
  · exact read_0 v s x w ht
  · exact read_1 v s x w ht
  · exact read_2 v s x w ht
  · exact read_3 v s x w ht
  · rw [show readS s reg = 0 by unfold readS; rw [if_neg h0, if_neg h1, if_neg h2, if_neg h3]]
    exact read_4 v s x reg w hr h0 h1 h2 h3 ht
theorem Read_any (b : Nat) (s : St) (O : Nat → Prop) (reg : Int) (w : World) (h1 : I64 reg) (h : Tim w b s O) :
    Calls Try.prog 17 #[.pointer (some ⟨b, 0, none⟩), .int .i64 reg] w fun e w' => e = .returned (.int .u32 (readS s reg)) ∧ Below w.heap.size w w' := by
  refine read_q _ s (me b) reg w h1 ((timer_yes b w h.1.c4).mono ?_)
  rintro e w' ⟨rfl, rfl⟩
  exact ⟨⟨b, rfl, h.1⟩, Below.refl _ _⟩
theorem readS_zero (reg : Int) : readS zeroS reg = 0 := by unfold readS zeroS; split <;> (try rfl); split <;> (try rfl); split <;> (try rfl); split <;> rfl
theorem Read_non (v : Value) (reg : Int) (w : World) (h1 : I64 reg) (h : Non w v) :
    Calls Try.prog 17 #[v, .int .i64 reg] w fun e w' => e = .returned (.int .u32 0) ∧ Below w.heap.size w w' := by
  rw [← readS_zero reg]
  refine read_q _ zeroS (.pointer none) reg w h1 ((timer_non v w h).mono ?_)
  rintro e w' ⟨⟨b, rfl, h1, _⟩, hb⟩
  exact ⟨⟨b, rfl, h1⟩, hb⟩
theorem write_0 (v : Value) (s : St) (x : Value) (n : Int) (G : Nat → Prop) (w : World) (hn : 0 ≤ n ∧ n < 4294967296) (ht : Calls Try.prog 22 #[v] w fun e w' => (∃ b, e = .returned (me b) ∧ TW w' b s x ∧ G b) ∧ Below w.heap.size w w') :
    Calls Try.prog 11 #[v, .int .i64 0, .int .u32 n] w fun e w' => e = .returned (.tuple #[]) ∧ ∃ b, G b ∧ TW w' b (writeS s 0 n) x ∧ Only (fun j => j = b) w w' := by
  have hr : I64 0 := ⟨by decide, by decide⟩
  have Hn := Lib.hid hn
  clear hn
  have T := Lib.hid ht
  have Kr := Lib.hid hr
  clear ht hr
  go_enter Try.func11, Try.ntmps11
  go_wp2_with fail
  refine T.out.mono ?_
  rintro e w1 ⟨⟨b, rfl, h1, h2⟩, hb1⟩
  have T1 := Lib.hid h1
  have HG := Lib.hid h2
  have B1 := Lib.hid hb1
  clear h1 h2 hb1
  go_wp2_with fail
  refine (writes_any b w1).mono ?_
  rintro e w2 ⟨⟨g, rfl, hm⟩, hb⟩
  have T2 := Lib.hid (T1.out.keep hb)
  have B2 := Lib.hid (B1.out.trans (hb.mono B1.out.size))
  have lk := look_w hm _ Kr.out
  clear hm hb
  rw [show atR (writeL b) 0 = some (meth 30 b) from rfl] at lk
  simp only [Option.getD_some, Option.isSome_some, meth] at lk
  go_wp2_with fail
  refine (setCount_any b s x n w2 Hn.out T2.out).mono ?_
  rintro e w3 ⟨rfl, h3, h4⟩
  have R := Lib.hid (And.intro h3 (show Only (fun j => j = b) w w3 from (Only.of_below B2.out).trans h4))
  clear h3 h4
  go_wp2_with fail
  go_end0
  exact ⟨rfl, b, HG.out, R.out⟩
theorem write_1 (v : Value) (s : St) (x : Value) (n : Int) (G : Nat → Prop) (w : World) (hn : 0 ≤ n ∧ n < 4294967296) (ht : Calls Try.prog 22 #[v] w fun e w' => (∃ b, e = .returned (me b) ∧ TW w' b s x ∧ G b) ∧ Below w.heap.size w w') :
    Calls Try.prog 11 #[v, .int .i64 1, .int .u32 n] w fun e w' => e = .returned (.tuple #[]) ∧ ∃ b, G b ∧ TW w' b (writeS s 1 n) x ∧ Only (fun j => j = b) w w' := by
  have hr : I64 1 := ⟨by decide, by decide⟩
  have Hn := Lib.hid hn
  clear hn
  have T := Lib.hid ht
  have Kr := Lib.hid hr
  clear ht hr
  go_enter Try.func11, Try.ntmps11
  go_wp2_with fail
  refine T.out.mono ?_
  rintro e w1 ⟨⟨b, rfl, h1, h2⟩, hb1⟩
  have T1 := Lib.hid h1
  have HG := Lib.hid h2
  have B1 := Lib.hid hb1
  clear h1 h2 hb1
  go_wp2_with fail
  refine (writes_any b w1).mono ?_
  rintro e w2 ⟨⟨g, rfl, hm⟩, hb⟩
  have T2 := Lib.hid (T1.out.keep hb)
  have B2 := Lib.hid (B1.out.trans (hb.mono B1.out.size))
  have lk := look_w hm _ Kr.out
  clear hm hb
  rw [show atR (writeL b) 1 = some (meth 31 b) from rfl] at lk
  simp only [Option.getD_some, Option.isSome_some, meth] at lk
  go_wp2_with fail
  refine (setLimit_any b s x n w2 Hn.out T2.out).mono ?_
  rintro e w3 ⟨rfl, h3, h4⟩
  have R := Lib.hid (And.intro h3 (show Only (fun j => j = b) w w3 from (Only.of_below B2.out).trans h4))
  clear h3 h4
  go_wp2_with fail
  go_end0
  exact ⟨rfl, b, HG.out, R.out⟩
theorem write_2 (v : Value) (s : St) (x : Value) (n : Int) (G : Nat → Prop) (w : World) (hn : 0 ≤ n ∧ n < 4294967296) (ht : Calls Try.prog 22 #[v] w fun e w' => (∃ b, e = .returned (me b) ∧ TW w' b s x ∧ G b) ∧ Below w.heap.size w w') :
    Calls Try.prog 11 #[v, .int .i64 2, .int .u32 n] w fun e w' => e = .returned (.tuple #[]) ∧ ∃ b, G b ∧ TW w' b (writeS s 2 n) x ∧ Only (fun j => j = b) w w' := by
  have hr : I64 2 := ⟨by decide, by decide⟩
  have Hn := Lib.hid hn
  clear hn
  have T := Lib.hid ht
  have Kr := Lib.hid hr
  clear ht hr
  go_enter Try.func11, Try.ntmps11
  go_wp2_with fail
  refine T.out.mono ?_
  rintro e w1 ⟨⟨b, rfl, h1, h2⟩, hb1⟩
  have T1 := Lib.hid h1
  have HG := Lib.hid h2
  have B1 := Lib.hid hb1
  clear h1 h2 hb1
  go_wp2_with fail
  refine (writes_any b w1).mono ?_
  rintro e w2 ⟨⟨g, rfl, hm⟩, hb⟩
  have T2 := Lib.hid (T1.out.keep hb)
  have B2 := Lib.hid (B1.out.trans (hb.mono B1.out.size))
  have lk := look_w hm _ Kr.out
  clear hm hb
  rw [show atR (writeL b) 2 = some (meth 32 b) from rfl] at lk
  simp only [Option.getD_some, Option.isSome_some, meth] at lk
  go_wp2_with fail
  refine (setCtrl_any b s x n w2 Hn.out T2.out).mono ?_
  rintro e w3 ⟨rfl, h3, h4⟩
  have R := Lib.hid (And.intro h3 (show Only (fun j => j = b) w w3 from (Only.of_below B2.out).trans h4))
  clear h3 h4
  go_wp2_with fail
  go_end0
  exact ⟨rfl, b, HG.out, R.out⟩
theorem write_3 (v : Value) (s : St) (x : Value) (n : Int) (G : Nat → Prop) (w : World) (hn : 0 ≤ n ∧ n < 4294967296) (ht : Calls Try.prog 22 #[v] w fun e w' => (∃ b, e = .returned (me b) ∧ TW w' b s x ∧ G b) ∧ Below w.heap.size w w') :
    Calls Try.prog 11 #[v, .int .i64 3, .int .u32 n] w fun e w' => e = .returned (.tuple #[]) ∧ ∃ b, G b ∧ TW w' b (writeS s 3 n) x ∧ Only (fun j => j = b) w w' := by
  have hr : I64 3 := ⟨by decide, by decide⟩
  have Hn := Lib.hid hn
  clear hn
  have T := Lib.hid ht
  have Kr := Lib.hid hr
  clear ht hr
  go_enter Try.func11, Try.ntmps11
  go_wp2_with fail
  refine T.out.mono ?_
  rintro e w1 ⟨⟨b, rfl, h1, h2⟩, hb1⟩
  have T1 := Lib.hid h1
  have HG := Lib.hid h2
  have B1 := Lib.hid hb1
  clear h1 h2 hb1
  go_wp2_with fail
  refine (writes_any b w1).mono ?_
  rintro e w2 ⟨⟨g, rfl, hm⟩, hb⟩
  have T2 := Lib.hid (T1.out.keep hb)
  have B2 := Lib.hid (B1.out.trans (hb.mono B1.out.size))
  have lk := look_w hm _ Kr.out
  clear hm hb
  rw [show atR (writeL b) 3 = some (meth 33 b) from rfl] at lk
  simp only [Option.getD_some, Option.isSome_some, meth] at lk
  go_wp2_with fail
  refine (forgetHits_any b s x n w2 Hn.out T2.out).mono ?_
  rintro e w3 ⟨rfl, h3, h4⟩
  have R := Lib.hid (And.intro h3 (show Only (fun j => j = b) w w3 from (Only.of_below B2.out).trans h4))
  clear h3 h4
  go_wp2_with fail
  go_end0
  exact ⟨rfl, b, HG.out, R.out⟩
theorem write_4 (v : Value) (s : St) (x : Value) (reg n : Int) (G : Nat → Prop) (w : World) (hr : I64 reg) (h0 : ¬ reg = 0) (h1 : ¬ reg = 1) (h2 : ¬ reg = 2) (h3 : ¬ reg = 3) (ht : Calls Try.prog 22 #[v] w fun e w' => (∃ b, e = .returned (me b) ∧ TW w' b s x ∧ G b) ∧ Below w.heap.size w w') :
    Calls Try.prog 11 #[v, .int .i64 reg, .int .u32 n] w fun e w' => e = .returned (.tuple #[]) ∧ ∃ b, G b ∧ TW w' b (writeS s reg n) x ∧ Only (fun j => j = b) w w' := by
  rw [show writeS s reg n = s by unfold writeS; rw [if_neg h0, if_neg h1, if_neg h2, if_neg h3]]
  have E := Lib.hid (fun b => atR_none (l := writeL b) rfl h0 h1 h2 h3)
  clear h0 h1 h2 h3
  have T := Lib.hid ht
  have Kr := Lib.hid hr
  clear ht hr
  go_enter Try.func11, Try.ntmps11
  go_wp2_with fail
  refine T.out.mono ?_
  rintro e w1 ⟨⟨b, rfl, h1, h2⟩, hb1⟩
  have T1 := Lib.hid h1
  have HG := Lib.hid h2
  have B1 := Lib.hid hb1
  clear h1 h2 hb1
  go_wp2_with fail
  refine (writes_any b w1).mono ?_
  rintro e w2 ⟨⟨g, rfl, hm⟩, hb⟩
  have T2 := Lib.hid (T1.out.keep hb)
  have B2 := Lib.hid (B1.out.trans (hb.mono B1.out.size))
  have lk := look_w hm _ Kr.out
  clear hm hb
  rw [E.out b] at lk
  simp only [Option.getD_none, Option.isSome_none] at lk
  go_wp2_with fail
  go_end0
  exact ⟨rfl, b, HG.out, T2.out, Only.of_below B2.out⟩
theorem write_q (v : Value) (s : St) (x : Value) (reg n : Int) (G : Nat → Prop) (w : World) (hr : I64 reg) (hn : 0 ≤ n ∧ n < 4294967296) (ht : Calls Try.prog 22 #[v] w fun e w' => (∃ b, e = .returned (me b) ∧ TW w' b s x ∧ G b) ∧ Below w.heap.size w w') :
    Calls Try.prog 11 #[v, .int .i64 reg, .int .u32 n] w fun e w' => e = .returned (.tuple #[]) ∧ ∃ b, G b ∧ TW w' b (writeS s reg n) x ∧ Only (fun j => j = b) w w' := by
  rcases reg_cases reg with rfl | rfl | rfl | rfl | ⟨h0, h1, h2, h3⟩
  · exact write_0 v s x n G w hn ht
  · exact write_1 v s x n G w hn ht
  · exact write_2 v s x n G w hn ht
  · exact write_3 v s x n G w hn ht
  · exact write_4 v s x reg n G w hr h0 h1 h2 h3 ht
theorem Write_any (b : Nat) (s : St) (O : Nat → Prop) (reg v : Int) (w : World) (h1 : I64 reg) (h2 : 0 ≤ v ∧ v < 4294967296) (h : Tim w b s O) :
    Calls Try.prog 11 #[.pointer (some ⟨b, 0, none⟩), .int .i64 reg, .int .u32 v] w fun e w' => e = .returned (.tuple #[]) ∧ ∃ O', Tim w' b (writeS s reg v) O' ∧ Only O w w' ∧ ∀ j, O' j → O j ∨ w.heap.size ≤ j := by
  refine (write_q _ s (me b) reg v (fun k => k = b) w h1 h2 ((timer_yes b w h.1.c4).mono ?_)).mono ?_
  · rintro e w' ⟨rfl, rfl⟩
    exact ⟨⟨b, rfl, h.1, rfl⟩, Below.refl _ _⟩
  · rintro e w' ⟨rfl, k, hk, a1, a2⟩
    have hk : k = b := hk
    subst hk
    exact ⟨rfl, O, ⟨a1, h.2⟩, a2.mono (fun j _ e => (h.2 j).2 e), fun j hj => .inl hj⟩
theorem Write_non (v : Value) (reg x : Int) (w : World) (h1 : I64 reg) (h2 : 0 ≤ x ∧ x < 4294967296) (h : Non w v) :
    Calls Try.prog 11 #[v, .int .i64 reg, .int .u32 x] w fun e w' => e = .returned (.tuple #[]) ∧ Below w.heap.size w w' := by
  refine (write_q v zeroS (.pointer none) reg x (fun k => w.heap.size ≤ k) w h1 h2 ((timer_non v w h).mono ?_)).mono ?_
  · rintro e w' ⟨⟨b, rfl, h1, h2⟩, hb⟩
    exact ⟨⟨b, rfl, h1, h2⟩, hb⟩
  · rintro e w' ⟨rfl, k, hk, a1, a2⟩
    exact ⟨rfl, a2.below (Nat.le_refl _) (fun j e => by have : j = k := e; rw [this]; exact hk)⟩
theorem tick_q (v : Value) (s : St) (x : Value) (G : Nat → Prop) (w : World) (ht : Calls Try.prog 22 #[v] w fun e w' => (∃ b, e = .returned (me b) ∧ TW w' b s x ∧ G b) ∧ Below w.heap.size w w') :
    Calls Try.prog 13 #[v] w fun e w' => e = .returned (.tuple #[]) ∧ ∃ b, G b ∧ TW w' b (tickS s) x ∧ Only (fun j => j = b) w w' := by
  have T := Lib.hid ht
  clear ht
  go_enter Try.func13, Try.ntmps13
  go_wp2_with fail
  refine T.out.mono ?_
  rintro e w1 ⟨⟨b, rfl, h1, h2⟩, hb1⟩
  have T1 := Lib.hid h1
  have HG := Lib.hid h2
  have B1 := Lib.hid hb1
  clear h1 h2 hb1
  go_wp2_with fail
  refine (tick_any b s x w1 T1.out).mono ?_
  rintro e w3 ⟨rfl, h3, h4⟩
  have R := Lib.hid (And.intro h3 (show Only (fun j => j = b) w w3 from (Only.of_below B1.out).trans h4))
  clear h3 h4
  go_wp2_with fail
  go_end0
  exact ⟨rfl, b, HG.out, R.out⟩
theorem Tick_any (b : Nat) (s : St) (O : Nat → Prop) (w : World) (h : Tim w b s O) :
    Calls Try.prog 13 #[.pointer (some ⟨b, 0, none⟩)] w fun e w' => e = .returned (.tuple #[]) ∧ ∃ O', Tim w' b (tickS s) O' ∧ Only O w w' ∧ ∀ j, O' j → O j ∨ w.heap.size ≤ j := by
  refine (tick_q _ s (me b) (fun k => k = b) w ((timer_yes b w h.1.c4).mono ?_)).mono ?_
  · rintro e w' ⟨rfl, rfl⟩
    exact ⟨⟨b, rfl, h.1, rfl⟩, Below.refl _ _⟩
  · rintro e w' ⟨rfl, k, hk, a1, a2⟩
    have hk : k = b := hk
    subst hk
    exact ⟨rfl, O, ⟨a1, h.2⟩, a2.mono (fun j _ e => (h.2 j).2 e), fun j hj => .inl hj⟩
theorem Tick_non (v : Value) (w : World) (h : Non w v) :
    Calls Try.prog 13 #[v] w fun e w' => e = .returned (.tuple #[]) ∧ Below w.heap.size w w' := by
  refine (tick_q v zeroS (.pointer none) (fun k => w.heap.size ≤ k) w ((timer_non v w h).mono ?_)).mono ?_
  · rintro e w' ⟨⟨b, rfl, h1, h2⟩, hb⟩
    exact ⟨⟨b, rfl, h1, h2⟩, hb⟩
  · rintro e w' ⟨rfl, k, hk, a1, a2⟩
    exact ⟨rfl, a2.below (Nat.le_refl _) (fun j e => by have : j = k := e; rw [this]; exact hk)⟩
theorem line_q (v : Value) (s : St) (x : Value) (w : World) (ht : Calls Try.prog 22 #[v] w fun e w' => (∃ b, e = .returned (me b) ∧ TW w' b s x) ∧ Below w.heap.size w w') :
    Calls Try.prog 18 #[v] w fun e w' => e = .returned (.bool (lineS s)) ∧ Below w.heap.size w w' := by
  have T := Lib.hid ht
  clear ht
  go_enter Try.func18, Try.ntmps18
  go_wp2_with fail
  refine T.out.mono ?_
  rintro e w1 ⟨⟨b, rfl, h1⟩, hb1⟩
  have T1 := Lib.hid h1
  have B1 := Lib.hid hb1
  clear h1 hb1
  go_wp2_with fail
  refine (line_any b s x w1 T1.out).mono ?_
  rintro e w3 ⟨rfl, rfl⟩
  go_wp2_with fail
  go_ret
  exact ⟨rfl, B1.out⟩
theorem state_q (v : Value) (s : St) (x : Value) (w : World) (ht : ∀ W, Below w.heap.size w W → Calls Try.prog 22 #[v] W fun e w' => (∃ b, e = .returned (me b) ∧ TW w' b s x) ∧ Below W.heap.size W w') :
    Calls Try.prog 16 #[v] w fun e w' => e = .returned (stv s) ∧ Below w.heap.size w w' := by
  have T := Lib.hid ht
  clear ht
  obtain ⟨g, hg⟩ : ∃ g, w.heap.size = g := ⟨_, rfl⟩
  have HG := Lib.hid hg
  go_enter Try.func16, Try.ntmps16
  go_wp2_with fail
  refine calls_letter ?_
  intro W hW
  have B0 := Lib.hid (show Below w.heap.size w W by rw [hW.out]; exact (Below.refl _ _).alloc (Nat.le_refl _) _)
  have Z := Lib.hid (show Blk W g 24 [.int .u32 0, .int .u32 0, .int .u32 0, .int .u32 0] by rw [hW.out, ← HG.out]; exact Blk.new w _ _)
  clear hW hg
  refine (T.out W B0.out).mono ?_
  rintro e w1 ⟨⟨b, rfl, h1⟩, hb1⟩
  have T1 := Lib.hid h1
  have B1 := Lib.hid (B0.out.trans (hb1.mono B0.out.size))
  have Z1 := Lib.hid (Z.out.keep hb1)
  clear h1 hb1
  go_wp2_with fail
  refine (state_any b s x w1 T1.out).mono ?_
  rintro e w2 ⟨rfl, hb⟩
  have B2 := Lib.hid (B1.out.trans (hb.mono B1.out.size))
  have Z2 := Lib.hid (Z1.out.keep hb)
  clear hb
  go_wp2_with (with_reducible refine at_store _ _ _ rfl ?_)
  refine Lib.hid ?_
  refine store_all rfl _ _ _ rfl g [.int .u32 s.C, .int .u32 s.L, .int .u32 s.K, .int .u32 s.H] rfl rfl 24 _ Z2.out (by kernel_rfl) rfl (by simp [Value.oneCell']) ?_
  intro Y hY hoY
  have R := Lib.hid hY
  have O := Lib.hid (show Below g w Y by
    have B := B2.out
    rw [HG.out] at B
    exact B.trans (hoY.below (Nat.le_of_lt Z2.out.lt) (fun k e => by have : k = g := e; omega)))
  clear hY hoY
  have r0 := R.out.at 0 rfl
  have r1 := R.out.at 1 rfl
  have r2 := R.out.at 2 rfl
  have r3 := R.out.at 3 rfl
  go_wp2_with fail
  refine bodyPost_ret (v := stv s) ?_ rfl ⟨rfl, by rw [HG.out]; exact O.out⟩
  simp [results, Try.results16, go_sem, stv, r0, r1, r2, r3]
theorem Line_any (b : Nat) (s : St) (O : Nat → Prop) (w : World) (h : Tim w b s O) :
    Calls Try.prog 18 #[.pointer (some ⟨b, 0, none⟩)] w fun e w' => e = .returned (.bool (lineS s)) ∧ Below w.heap.size w w' := by
  refine line_q _ s (me b) w ((timer_yes b w h.1.c4).mono ?_)
  rintro e w' ⟨rfl, rfl⟩
  exact ⟨⟨b, rfl, h.1⟩, Below.refl _ _⟩
theorem Line_non (v : Value) (w : World) (h : Non w v) :
    Calls Try.prog 18 #[v] w fun e w' => e = .returned (.bool false) ∧ Below w.heap.size w w' := by
  rw [show false = lineS zeroS from rfl]
  refine line_q _ zeroS (.pointer none) w ((timer_non v w h).mono ?_)
  rintro e w' ⟨⟨b, rfl, h1, _⟩, hb⟩
  exact ⟨⟨b, rfl, h1⟩, hb⟩
theorem State_any (b : Nat) (s : St) (O : Nat → Prop) (w : World) (h : Tim w b s O) :
    Calls Try.prog 16 #[.pointer (some ⟨b, 0, none⟩)] w fun e w' => e = .returned (stv s) ∧ Below w.heap.size w w' := by
  refine state_q _ s (me b) w (fun W hW => ((timer_yes b W (h.1.keep hW).c4).mono ?_))
  rintro e w' ⟨rfl, rfl⟩
  exact ⟨⟨b, rfl, h.1.keep hW⟩, Below.refl _ _⟩
theorem State_non (v : Value) (w : World) (h : Non w v) :
    Calls Try.prog 16 #[v] w fun e w' => e = .returned (stv zeroS) ∧ Below w.heap.size w w' := by
  refine state_q _ zeroS (.pointer none) w (fun W hW => (timer_non v W (h.keep hW)).mono ?_)
  rintro e w' ⟨⟨b, rfl, h1, _⟩, hb⟩
  exact ⟨⟨b, rfl, h1⟩, hb⟩
end Go.Proofs.Ythfckoemldhoaaa.Timer
