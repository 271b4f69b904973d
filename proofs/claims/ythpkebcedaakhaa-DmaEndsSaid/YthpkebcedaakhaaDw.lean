/- Package dma's contracts. Eng w b s O: the engine in block b has s; O: the blocks that are its own. -/
import Derived.Test.YthpkebcedaakhaaDt
namespace Go.Proofs.Ythpkebcedaakhaa.Dma
open Go.RowKit Go.Maps Go.ChangeShapes Go.WideShapes Go.ChangeAt Fifo Orow Word Fmap
set_option linter.unusedVariables false

def Eng (w : World) (b : Nat) (s : En) (O : Nat → Prop) : Prop := EX w b s false (me b) ∧ InvE s ∧ ∀ j, O j ↔ j = b
theorem Eng.only {S O : Nat → Prop} {w w' : World} {b : Nat} {s : En} (h : Eng w b s O) (ho : Only S w w') (hn : ∀ j, O j → ¬ S j) : Eng w' b s O := ⟨h.1.only ho (hn b ((h.2.2 b).2 rfl)), h.2.1, h.2.2⟩
theorem Eng.keep {O : Nat → Prop} {w w' : World} {b : Nat} {s : En} (h : Eng w b s O) (hb : Below w.heap.size w w') : Eng w' b s O := ⟨h.1.keep hb, h.2.1, h.2.2⟩
theorem Eng.lt {O : Nat → Prop} {w : World} {b : Nat} {s : En} (h : Eng w b s O) : ∀ j, O j → j < w.heap.size := fun j hj => by rw [(h.2.2 j).1 hj]; exact h.1.lt
theorem Eng.ok {O : Nat → Prop} {w : World} {b : Nat} {s : En} (h : Eng w b s O) : OkE s ∧ InvE s := ⟨h.1.ok, h.2.1⟩
theorem New_any (w : World) :
    Calls Try.prog 19 #[] w fun e w' => (∃ b O, e = .returned (.pointer (some ⟨b, 0, none⟩)) ∧ Eng w' b zeroE O ∧ ∀ j, O j → w.heap.size ≤ j) ∧ Below w.heap.size w w' :=
  (New_any0 w).mono fun _ _ ⟨⟨b, h1, h2, h3⟩, h4⟩ => ⟨⟨b, fun j => j = b, h1, ⟨h2, inv_zero, fun j => Iff.rfl⟩, fun j e => by have e : j = b := e; rw [e]; exact h3⟩, h4⟩
theorem Of_any (s : En) (w : World) (h : OkE s) :
    Calls Try.prog 8 #[stE s] w fun e w' => (∃ b O, e = .returned (.pointer (some ⟨b, 0, none⟩)) ∧ Eng w' b (ofE s) O ∧ ∀ j, O j → w.heap.size ≤ j) ∧ Below w.heap.size w w' :=
  (Of_any0 s w h).mono fun _ _ ⟨⟨b, h1, h2, h3⟩, h4⟩ => ⟨⟨b, fun j => j = b, h1, ⟨h2, inv_of s, fun j => Iff.rfl⟩, fun j e => by have e : j = b := e; rw [e]; exact h3⟩, h4⟩
theorem fzero_r (w : World) : (zeroValue 60).run Try.prog w = .ok .nilFunc w := by kernel_rfl
theorem fzero_w (w : World) : (zeroValue 65).run Try.prog w = .ok .nilFunc w := by kernel_rfl
theorem look_r {w : World} {g b : Nat} (h : FM Try.prog 3 .i64 w g (readL b)) (k : Int) (hk : I64 k) : (Instr.lookup 62 (.map (some g)) (.int .i64 k) true).run Try.prog w = .ok (.tuple #[(atR (readL b) k).getD .nilFunc, .bool (atR (readL b) k).isSome]) w :=
  h.look keyK Try.underlying62 (fzero_r w) k (key_mk k hk)
theorem look_w {w : World} {g b : Nat} (h : FM Try.prog 3 .i64 w g (writeL b)) (k : Int) (hk : I64 k) : (Instr.lookup 67 (.map (some g)) (.int .i64 k) true).run Try.prog w = .ok (.tuple #[(atR (writeL b) k).getD .nilFunc, .bool (atR (writeL b) k).isSome]) w :=
  h.look keyK Try.underlying67 (fzero_w w) k (key_mk k hk)
theorem atR_r {b : Nat} {k : Int} (h0 : ¬ k = 0) (h1 : ¬ k = 1) (h2 : ¬ k = 2) (h3 : ¬ k = 3) : atR (readL b) k = none := by
  simp only [readL, atR]
  rw [if_neg h3, if_neg h2, if_neg h1, if_neg h0]
theorem atR_w {b : Nat} {k : Int} (h0 : ¬ k = 0) (h1 : ¬ k = 1) (h2 : ¬ k = 2) (h3 : ¬ k = 3) (h4 : ¬ k = 4) : atR (writeL b) k = none := by
  simp only [writeL, atR]
  rw [if_neg h4, if_neg h3, if_neg h2, if_neg h1, if_neg h0]
theorem read_0 (v : Value) (s : En) (x : Value) (w : World) (ht : Calls Try.prog 27 #[v] w fun e w' => (∃ b, e = .returned (me b) ∧ EX w' b s false x) ∧ Below w.heap.size w w') :
    Calls Try.prog 12 #[v, .int .i64 0] w fun e w' => e = .returned (.int .u32 s.F) ∧ Below w.heap.size w w' := by
  have hr : I64 0 := ⟨by decide, by decide⟩
  have T := Lib.hid ht
  have Kr := Lib.hid hr
  clear ht hr
  go_enter Try.func12, Try.ntmps12
  go_wp2_with fail
  refine T.out.mono ?_
  rintro e w1 ⟨⟨b, rfl, h1⟩, hb1⟩
  have T1 := Lib.hid h1
  have B1 := Lib.hid hb1
  clear h1 hb1
  go_wp2_with fail
  refine (reads_any b w1).mono ?_
  rintro e w2 ⟨⟨g, rfl, hm⟩, hb⟩
  have T2 := Lib.hid (T1.out.keep hb)
  have B2 := Lib.hid (B1.out.trans (hb.mono B1.out.size))
  have lk := look_r hm _ Kr.out
  clear hm hb
  rw [show atR (readL b) 0 = some (meth 41 b) from rfl] at lk
  simp only [Option.getD_some, Option.isSome_some, meth] at lk
  go_wp2_with fail
  refine (fromNow_any b s false x w2 T2.out).mono ?_
  rintro e w3 ⟨rfl, rfl⟩
  go_wp2_with fail
  go_ret
  exact ⟨rfl, B2.out⟩
theorem read_1 (v : Value) (s : En) (x : Value) (w : World) (ht : Calls Try.prog 27 #[v] w fun e w' => (∃ b, e = .returned (me b) ∧ EX w' b s false x) ∧ Below w.heap.size w w') :
    Calls Try.prog 12 #[v, .int .i64 1] w fun e w' => e = .returned (.int .u32 s.T) ∧ Below w.heap.size w w' := by
  have hr : I64 1 := ⟨by decide, by decide⟩
  have T := Lib.hid ht
  have Kr := Lib.hid hr
  clear ht hr
  go_enter Try.func12, Try.ntmps12
  go_wp2_with fail
  refine T.out.mono ?_
  rintro e w1 ⟨⟨b, rfl, h1⟩, hb1⟩
  have T1 := Lib.hid h1
  have B1 := Lib.hid hb1
  clear h1 hb1
  go_wp2_with fail
  refine (reads_any b w1).mono ?_
  rintro e w2 ⟨⟨g, rfl, hm⟩, hb⟩
  have T2 := Lib.hid (T1.out.keep hb)
  have B2 := Lib.hid (B1.out.trans (hb.mono B1.out.size))
  have lk := look_r hm _ Kr.out
  clear hm hb
  rw [show atR (readL b) 1 = some (meth 42 b) from rfl] at lk
  simp only [Option.getD_some, Option.isSome_some, meth] at lk
  go_wp2_with fail
  refine (toNow_any b s false x w2 T2.out).mono ?_
  rintro e w3 ⟨rfl, rfl⟩
  go_wp2_with fail
  go_ret
  exact ⟨rfl, B2.out⟩
theorem read_2 (v : Value) (s : En) (x : Value) (w : World) (ht : Calls Try.prog 27 #[v] w fun e w' => (∃ b, e = .returned (me b) ∧ EX w' b s false x) ∧ Below w.heap.size w w') :
    Calls Try.prog 12 #[v, .int .i64 2] w fun e w' => e = .returned (.int .u32 s.L) ∧ Below w.heap.size w w' := by
  have hr : I64 2 := ⟨by decide, by decide⟩
  have T := Lib.hid ht
  have Kr := Lib.hid hr
  clear ht hr
  go_enter Try.func12, Try.ntmps12
  go_wp2_with fail
  refine T.out.mono ?_
  rintro e w1 ⟨⟨b, rfl, h1⟩, hb1⟩
  have T1 := Lib.hid h1
  have B1 := Lib.hid hb1
  clear h1 hb1
  go_wp2_with fail
  refine (reads_any b w1).mono ?_
  rintro e w2 ⟨⟨g, rfl, hm⟩, hb⟩
  have T2 := Lib.hid (T1.out.keep hb)
  have B2 := Lib.hid (B1.out.trans (hb.mono B1.out.size))
  have lk := look_r hm _ Kr.out
  clear hm hb
  rw [show atR (readL b) 2 = some (meth 43 b) from rfl] at lk
  simp only [Option.getD_some, Option.isSome_some, meth] at lk
  go_wp2_with fail
  refine (leftNow_any b s false x w2 T2.out).mono ?_
  rintro e w3 ⟨rfl, rfl⟩
  go_wp2_with fail
  go_ret
  exact ⟨rfl, B2.out⟩
theorem read_3 (v : Value) (s : En) (x : Value) (w : World) (ht : Calls Try.prog 27 #[v] w fun e w' => (∃ b, e = .returned (me b) ∧ EX w' b s false x) ∧ Below w.heap.size w w') :
    Calls Try.prog 12 #[v, .int .i64 3] w fun e w' => e = .returned (.int .u32 (bitV s.busy 1 + bitV s.den 2 + bitV s.don 4 + bitV s.cal 256)) ∧ Below w.heap.size w w' := by
  have hr : I64 3 := ⟨by decide, by decide⟩
  have T := Lib.hid ht
  have Kr := Lib.hid hr
  clear ht hr
  go_enter Try.func12, Try.ntmps12
  go_wp2_with fail
  refine T.out.mono ?_
  rintro e w1 ⟨⟨b, rfl, h1⟩, hb1⟩
  have T1 := Lib.hid h1
  have B1 := Lib.hid hb1
  clear h1 hb1
  go_wp2_with fail
  refine (reads_any b w1).mono ?_
  rintro e w2 ⟨⟨g, rfl, hm⟩, hb⟩
  have T2 := Lib.hid (T1.out.keep hb)
  have B2 := Lib.hid (B1.out.trans (hb.mono B1.out.size))
  have lk := look_r hm _ Kr.out
  clear hm hb
  rw [show atR (readL b) 3 = some (meth 44 b) from rfl] at lk
  simp only [Option.getD_some, Option.isSome_some, meth] at lk
  go_wp2_with fail
  refine (ctrlNow_any b s false x w2 T2.out).mono ?_
  rintro e w3 ⟨rfl, rfl⟩
  go_wp2_with fail
  go_ret
  exact ⟨rfl, B2.out⟩
theorem read_none (v : Value) (s : En) (x : Value) (reg : Int) (w : World) (hr : I64 reg) (h0 : ¬ reg = 0) (h1 : ¬ reg = 1) (h2 : ¬ reg = 2) (h3 : ¬ reg = 3) (ht : Calls Try.prog 27 #[v] w fun e w' => (∃ b, e = .returned (me b) ∧ EX w' b s false x) ∧ Below w.heap.size w w') :
    Calls Try.prog 12 #[v, .int .i64 reg] w fun e w' => e = .returned (.int .u32 0) ∧ Below w.heap.size w w' := by
  have E := Lib.hid (fun b => atR_r (b := b) h0 h1 h2 h3)
  clear h0 h1 h2 h3
  have T := Lib.hid ht
  have Kr := Lib.hid hr
  clear ht hr
  go_enter Try.func12, Try.ntmps12
  go_wp2_with fail
  refine T.out.mono ?_
  rintro e w1 ⟨⟨b, rfl, h1⟩, hb1⟩
  have T1 := Lib.hid h1
  have B1 := Lib.hid hb1
  clear h1 hb1
  go_wp2_with fail
  refine (reads_any b w1).mono ?_
  rintro e w2 ⟨⟨g, rfl, hm⟩, hb⟩
  have T2 := Lib.hid (T1.out.keep hb)
  have B2 := Lib.hid (B1.out.trans (hb.mono B1.out.size))
  have lk := look_r hm _ Kr.out
  clear hm hb
  rw [E.out b] at lk
  simp only [Option.getD_none, Option.isSome_none] at lk
  go_wp2_with fail
  go_ret
  exact ⟨rfl, B2.out⟩
theorem read_q (v : Value) (s : En) (x : Value) (reg : Int) (w : World) (hr : I64 reg) (ht : Calls Try.prog 27 #[v] w fun e w' => (∃ b, e = .returned (me b) ∧ EX w' b s false x) ∧ Below w.heap.size w w') :
    Calls Try.prog 12 #[v, .int .i64 reg] w fun e w' => e = .returned (.int .u32 (readE s reg)) ∧ Below w.heap.size w w' := by
  unfold readE
  by_cases h0 : reg = 0
  · subst h0
    rw [if_pos rfl]
    exact read_0 v s x w ht
  rw [if_neg h0]
  by_cases h1 : reg = 1
  · subst h1
    rw [if_pos rfl]
    exact read_1 v s x w ht
  rw [if_neg h1]
  by_cases h2 : reg = 2
  · subst h2
    rw [if_pos rfl]
    exact read_2 v s x w ht
  rw [if_neg h2]
  by_cases h3 : reg = 3
  · subst h3
    rw [if_pos rfl]
    exact read_3 v s x w ht
  rw [if_neg h3]
  exact read_none v s x reg w hr h0 h1 h2 h3 ht
theorem write_0 (v : Value) (s : En) (x : Value) (n : Int) (G : Nat → Prop) (w : World) (hn : 0 ≤ n ∧ n < 4294967296) (hi : InvE s) (ht : Calls Try.prog 27 #[v] w fun e w' => (∃ b, e = .returned (me b) ∧ EX w' b s false x ∧ G b) ∧ Below w.heap.size w w') :
    Calls Try.prog 14 #[v, .int .i64 0, .int .u32 n] w fun e w' => e = .returned (.tuple #[]) ∧ ∃ b, G b ∧ EX w' b (writeE s 0 n) false x ∧ Only (fun j => j = b) w w' := by
  have hr : I64 0 := ⟨by decide, by decide⟩
  have T := Lib.hid ht
  have Kr := Lib.hid hr
  have HN := Lib.hid hn
  have HI := Lib.hid hi
  clear ht hr hn hi
  go_enter Try.func14, Try.ntmps14
  go_wp2_with fail
  refine T.out.mono ?_
  rintro e w1 ⟨⟨b, rfl, h1, h2⟩, hb1⟩
  have T1 := Lib.hid h1
  have HG := Lib.hid h2
  have B1 := Lib.hid hb1
  clear h1 h2 hb1
  go_wp2_with fail
  refine (writes_any b w1).mono ?_
  rintro e w2 ⟨⟨g, rfl, hm⟩, hb⟩
  have T2 := Lib.hid (T1.out.keep hb)
  have B2 := Lib.hid (B1.out.trans (hb.mono B1.out.size))
  have lk := look_w hm _ Kr.out
  clear hm hb
  rw [show atR (writeL b) 0 = some (meth 45 b) from rfl] at lk
  simp only [Option.getD_some, Option.isSome_some, meth] at lk
  go_wp2_with fail
  refine (setFrom_any b s false x n w2 HN.out T2.out).mono ?_
  rintro e w3 ⟨rfl, h3, h4⟩
  have R := Lib.hid (And.intro h3 (show Only (fun j => j = b) w w3 from (Only.of_below B2.out).trans h4))
  clear h3 h4
  go_wp2_with fail
  go_end0
  exact ⟨rfl, b, HG.out, R.out⟩
theorem write_1 (v : Value) (s : En) (x : Value) (n : Int) (G : Nat → Prop) (w : World) (hn : 0 ≤ n ∧ n < 4294967296) (hi : InvE s) (ht : Calls Try.prog 27 #[v] w fun e w' => (∃ b, e = .returned (me b) ∧ EX w' b s false x ∧ G b) ∧ Below w.heap.size w w') :
    Calls Try.prog 14 #[v, .int .i64 1, .int .u32 n] w fun e w' => e = .returned (.tuple #[]) ∧ ∃ b, G b ∧ EX w' b (writeE s 1 n) false x ∧ Only (fun j => j = b) w w' := by
  have hr : I64 1 := ⟨by decide, by decide⟩
  have T := Lib.hid ht
  have Kr := Lib.hid hr
  have HN := Lib.hid hn
  have HI := Lib.hid hi
  clear ht hr hn hi
  go_enter Try.func14, Try.ntmps14
  go_wp2_with fail
  refine T.out.mono ?_
  rintro e w1 ⟨⟨b, rfl, h1, h2⟩, hb1⟩
  have T1 := Lib.hid h1
  have HG := Lib.hid h2
  have B1 := Lib.hid hb1
  clear h1 h2 hb1
  go_wp2_with fail
  refine (writes_any b w1).mono ?_
  rintro e w2 ⟨⟨g, rfl, hm⟩, hb⟩
  have T2 := Lib.hid (T1.out.keep hb)
  have B2 := Lib.hid (B1.out.trans (hb.mono B1.out.size))
  have lk := look_w hm _ Kr.out
  clear hm hb
  rw [show atR (writeL b) 1 = some (meth 46 b) from rfl] at lk
  simp only [Option.getD_some, Option.isSome_some, meth] at lk
  go_wp2_with fail
  refine (setTo_any b s false x n w2 HN.out T2.out).mono ?_
  rintro e w3 ⟨rfl, h3, h4⟩
  have R := Lib.hid (And.intro h3 (show Only (fun j => j = b) w w3 from (Only.of_below B2.out).trans h4))
  clear h3 h4
  go_wp2_with fail
  go_end0
  exact ⟨rfl, b, HG.out, R.out⟩
theorem write_2 (v : Value) (s : En) (x : Value) (n : Int) (G : Nat → Prop) (w : World) (hn : 0 ≤ n ∧ n < 4294967296) (hi : InvE s) (ht : Calls Try.prog 27 #[v] w fun e w' => (∃ b, e = .returned (me b) ∧ EX w' b s false x ∧ G b) ∧ Below w.heap.size w w') :
    Calls Try.prog 14 #[v, .int .i64 2, .int .u32 n] w fun e w' => e = .returned (.tuple #[]) ∧ ∃ b, G b ∧ EX w' b (writeE s 2 n) false x ∧ Only (fun j => j = b) w w' := by
  have hr : I64 2 := ⟨by decide, by decide⟩
  have T := Lib.hid ht
  have Kr := Lib.hid hr
  have HN := Lib.hid hn
  have HI := Lib.hid hi
  clear ht hr hn hi
  go_enter Try.func14, Try.ntmps14
  go_wp2_with fail
  refine T.out.mono ?_
  rintro e w1 ⟨⟨b, rfl, h1, h2⟩, hb1⟩
  have T1 := Lib.hid h1
  have HG := Lib.hid h2
  have B1 := Lib.hid hb1
  clear h1 h2 hb1
  go_wp2_with fail
  refine (writes_any b w1).mono ?_
  rintro e w2 ⟨⟨g, rfl, hm⟩, hb⟩
  have T2 := Lib.hid (T1.out.keep hb)
  have B2 := Lib.hid (B1.out.trans (hb.mono B1.out.size))
  have lk := look_w hm _ Kr.out
  clear hm hb
  rw [show atR (writeL b) 2 = some (meth 47 b) from rfl] at lk
  simp only [Option.getD_some, Option.isSome_some, meth] at lk
  go_wp2_with fail
  refine (setLeft_any b s false x n w2 HN.out T2.out).mono ?_
  rintro e w3 ⟨rfl, h3, h4⟩
  have R := Lib.hid (And.intro h3 (show Only (fun j => j = b) w w3 from (Only.of_below B2.out).trans h4))
  clear h3 h4
  go_wp2_with fail
  go_end0
  exact ⟨rfl, b, HG.out, R.out⟩
theorem write_3 (v : Value) (s : En) (x : Value) (n : Int) (G : Nat → Prop) (w : World) (hn : 0 ≤ n ∧ n < 4294967296) (hi : InvE s) (ht : Calls Try.prog 27 #[v] w fun e w' => (∃ b, e = .returned (me b) ∧ EX w' b s false x ∧ G b) ∧ Below w.heap.size w w') :
    Calls Try.prog 14 #[v, .int .i64 3, .int .u32 n] w fun e w' => e = .returned (.tuple #[]) ∧ ∃ b, G b ∧ EX w' b (writeE s 3 n) false x ∧ Only (fun j => j = b) w w' := by
  have hr : I64 3 := ⟨by decide, by decide⟩
  have T := Lib.hid ht
  have Kr := Lib.hid hr
  have HN := Lib.hid hn
  have HI := Lib.hid hi
  clear ht hr hn hi
  go_enter Try.func14, Try.ntmps14
  go_wp2_with fail
  refine T.out.mono ?_
  rintro e w1 ⟨⟨b, rfl, h1, h2⟩, hb1⟩
  have T1 := Lib.hid h1
  have HG := Lib.hid h2
  have B1 := Lib.hid hb1
  clear h1 h2 hb1
  go_wp2_with fail
  refine (writes_any b w1).mono ?_
  rintro e w2 ⟨⟨g, rfl, hm⟩, hb⟩
  have T2 := Lib.hid (T1.out.keep hb)
  have B2 := Lib.hid (B1.out.trans (hb.mono B1.out.size))
  have lk := look_w hm _ Kr.out
  clear hm hb
  rw [show atR (writeL b) 3 = some (meth 48 b) from rfl] at lk
  simp only [Option.getD_some, Option.isSome_some, meth] at lk
  go_wp2_with fail
  refine (setCtrl_any b s false x n w2 HN.out HI.out T2.out).mono ?_
  rintro e w3 ⟨rfl, h3, h4⟩
  have R := Lib.hid (And.intro h3 (show Only (fun j => j = b) w w3 from (Only.of_below B2.out).trans h4))
  clear h3 h4
  go_wp2_with fail
  go_end0
  exact ⟨rfl, b, HG.out, R.out⟩
theorem write_4 (v : Value) (s : En) (x : Value) (n : Int) (G : Nat → Prop) (w : World) (hn : 0 ≤ n ∧ n < 4294967296) (hi : InvE s) (ht : Calls Try.prog 27 #[v] w fun e w' => (∃ b, e = .returned (me b) ∧ EX w' b s false x ∧ G b) ∧ Below w.heap.size w w') :
    Calls Try.prog 14 #[v, .int .i64 4, .int .u32 n] w fun e w' => e = .returned (.tuple #[]) ∧ ∃ b, G b ∧ EX w' b (writeE s 4 n) false x ∧ Only (fun j => j = b) w w' := by
  have hr : I64 4 := ⟨by decide, by decide⟩
  have T := Lib.hid ht
  have Kr := Lib.hid hr
  have HN := Lib.hid hn
  have HI := Lib.hid hi
  clear ht hr hn hi
  go_enter Try.func14, Try.ntmps14
  go_wp2_with fail
  refine T.out.mono ?_
  rintro e w1 ⟨⟨b, rfl, h1, h2⟩, hb1⟩
  have T1 := Lib.hid h1
  have HG := Lib.hid h2
  have B1 := Lib.hid hb1
  clear h1 h2 hb1
  go_wp2_with fail
  refine (writes_any b w1).mono ?_
  rintro e w2 ⟨⟨g, rfl, hm⟩, hb⟩
  have T2 := Lib.hid (T1.out.keep hb)
  have B2 := Lib.hid (B1.out.trans (hb.mono B1.out.size))
  have lk := look_w hm _ Kr.out
  clear hm hb
  rw [show atR (writeL b) 4 = some (meth 49 b) from rfl] at lk
  simp only [Option.getD_some, Option.isSome_some, meth] at lk
  go_wp2_with fail
  refine (forget_any b s false x n w2 HN.out T2.out).mono ?_
  rintro e w3 ⟨rfl, h3, h4⟩
  have R := Lib.hid (And.intro h3 (show Only (fun j => j = b) w w3 from (Only.of_below B2.out).trans h4))
  clear h3 h4
  go_wp2_with fail
  go_end0
  exact ⟨rfl, b, HG.out, R.out⟩
theorem write_none (v : Value) (s : En) (x : Value) (reg : Int) (n : Int) (G : Nat → Prop) (w : World) (hr : I64 reg) (h0 : ¬ reg = 0) (h1 : ¬ reg = 1) (h2 : ¬ reg = 2) (h3 : ¬ reg = 3) (h4 : ¬ reg = 4) (hn : 0 ≤ n ∧ n < 4294967296) (hi : InvE s) (ht : Calls Try.prog 27 #[v] w fun e w' => (∃ b, e = .returned (me b) ∧ EX w' b s false x ∧ G b) ∧ Below w.heap.size w w') :
    Calls Try.prog 14 #[v, .int .i64 reg, .int .u32 n] w fun e w' => e = .returned (.tuple #[]) ∧ ∃ b, G b ∧ EX w' b s false x ∧ Only (fun j => j = b) w w' := by
  have E := Lib.hid (fun b => atR_w (b := b) h0 h1 h2 h3 h4)
  clear h0 h1 h2 h3 h4
  have T := Lib.hid ht
  have Kr := Lib.hid hr
  have HN := Lib.hid hn
  have HI := Lib.hid hi
  clear ht hr hn hi
  go_enter Try.func14, Try.ntmps14
  go_wp2_with fail
  refine T.out.mono ?_
  rintro e w1 ⟨⟨b, rfl, h1, h2⟩, hb1⟩
  have T1 := Lib.hid h1
  have HG := Lib.hid h2
  have B1 := Lib.hid hb1
  clear h1 h2 hb1
  go_wp2_with fail
  refine (writes_any b w1).mono ?_
  rintro e w2 ⟨⟨g, rfl, hm⟩, hb⟩
  have T2 := Lib.hid (T1.out.keep hb)
  have B2 := Lib.hid (B1.out.trans (hb.mono B1.out.size))
  have lk := look_w hm _ Kr.out
  clear hm hb
  rw [E.out b] at lk
  simp only [Option.getD_none, Option.isSome_none] at lk
  go_wp2_with fail
  go_end0
  exact ⟨rfl, b, HG.out, T2.out, Only.of_below B2.out⟩
theorem write_q (v : Value) (s : En) (x : Value) (reg n : Int) (G : Nat → Prop) (w : World) (hr : I64 reg) (hn : 0 ≤ n ∧ n < 4294967296) (hi : InvE s) (ht : Calls Try.prog 27 #[v] w fun e w' => (∃ b, e = .returned (me b) ∧ EX w' b s false x ∧ G b) ∧ Below w.heap.size w w') :
    Calls Try.prog 14 #[v, .int .i64 reg, .int .u32 n] w fun e w' => e = .returned (.tuple #[]) ∧ ∃ b, G b ∧ EX w' b (writeE s reg n) false x ∧ Only (fun j => j = b) w w' := by
  by_cases h0 : reg = 0
  · subst h0
    exact write_0 v s x n G w hn hi ht
  by_cases h1 : reg = 1
  · subst h1
    exact write_1 v s x n G w hn hi ht
  by_cases h2 : reg = 2
  · subst h2
    exact write_2 v s x n G w hn hi ht
  by_cases h3 : reg = 3
  · subst h3
    exact write_3 v s x n G w hn hi ht
  by_cases h4 : reg = 4
  · subst h4
    exact write_4 v s x n G w hn hi ht
  rw [show writeE s reg n = s by unfold writeE; rw [if_neg h0, if_neg h1, if_neg h2, if_neg h3, if_neg h4]]
  exact write_none v s x reg n G w hr h0 h1 h2 h3 h4 hn hi ht
theorem line_q (v : Value) (s : En) (x : Value) (w : World) (ht : Calls Try.prog 27 #[v] w fun e w' => (∃ b, e = .returned (me b) ∧ EX w' b s false x) ∧ Below w.heap.size w w') :
    Calls Try.prog 20 #[v] w fun e w' => e = .returned (.bool (lineE s)) ∧ Below w.heap.size w w' := by
  have T := Lib.hid ht
  clear ht
  go_enter Try.func20, Try.ntmps20
  go_wp2_with fail
  refine T.out.mono ?_
  rintro e w1 ⟨⟨b, rfl, h1⟩, hb1⟩
  have T1 := Lib.hid h1
  have B1 := Lib.hid hb1
  clear h1 hb1
  go_wp2_with fail
  refine (line_any b s false x w1 T1.out).mono ?_
  rintro e w3 ⟨rfl, rfl⟩
  go_wp2_with fail
  go_ret
  exact ⟨rfl, B1.out⟩
theorem state_q (v : Value) (s : En) (x : Value) (w : World) (ht : ∀ W, Below w.heap.size w W → Calls Try.prog 27 #[v] W fun e w' => (∃ b, e = .returned (me b) ∧ EX w' b s false x) ∧ Below W.heap.size W w') :
    Calls Try.prog 18 #[v] w fun e w' => e = .returned (stE s) ∧ Below w.heap.size w w' := by
  have T := Lib.hid ht
  clear ht
  obtain ⟨g, hg⟩ : ∃ g, w.heap.size = g := ⟨_, rfl⟩
  have HG := Lib.hid hg
  go_enter Try.func18, Try.ntmps18
  go_wp2_with fail
  refine calls_letter ?_
  intro W hW
  have B0 := Lib.hid (show Below w.heap.size w W by rw [hW.out]; exact (Below.refl _ _).alloc (Nat.le_refl _) _)
  have Z := Lib.hid (show Blk W g 24 zcells by rw [hW.out, ← HG.out]; exact Blk.new w _ _)
  clear hW hg
  refine (T.out W B0.out).mono ?_
  rintro e w1 ⟨⟨b, rfl, h1⟩, hb1⟩
  have T1 := Lib.hid h1
  have B1 := Lib.hid (B0.out.trans (hb1.mono B0.out.size))
  have Z1 := Lib.hid (Z.out.keep hb1)
  clear h1 hb1
  go_wp2_with fail
  refine (told_any b s false x w1 T1.out).mono ?_
  rintro e w2 ⟨rfl, hb⟩
  have B2 := Lib.hid (B1.out.trans (hb.mono B1.out.size))
  have Z2 := Lib.hid (Z1.out.keep hb)
  clear hb
  go_wp2_with (with_reducible refine at_store _ _ _ rfl ?_)
  refine Lib.hid ?_
  refine store_all rfl _ _ _ rfl g (cellsE s) rfl rfl 24 _ Z2.out (by kernel_rfl) rfl (by simp [Value.oneCell']) ?_
  intro Y hY hoY
  have R := Lib.hid hY
  have O := Lib.hid (show Below g w Y by
    have B := B2.out
    rw [HG.out] at B
    exact B.trans (hoY.below (Nat.le_of_lt Z2.out.lt) (fun k e => by have : k = g := e; omega)))
  clear hY hoY
  have r0 := R.out.at 0 rfl
  have r1 := R.out.at 1 rfl
  have r2 := R.out.at 2 rfl
  have r3 := R.out.at 3 rfl
  have r4 := R.out.at 4 rfl
  have r5 := R.out.at 5 rfl
  have r6 := R.out.at 6 rfl
  have r7 := R.out.at 7 rfl
  have r8 := R.out.at 8 rfl
  go_wp2_with fail
  refine bodyPost_ret (v := stE s) ?_ rfl ⟨rfl, by rw [HG.out]; exact O.out⟩
  simp [results, Try.results18, go_sem, r0, r1, r2, r3, r4, r5, r6, r7, r8]
theorem yes {w : World} {b : Nat} {s : En} {O : Nat → Prop} (h : Eng w b s O) :
    Calls Try.prog 27 #[me b] w fun e w' => (∃ c, e = .returned (me c) ∧ EX w' c s false (me b) ∧ c = b) ∧ Below w.heap.size w w' := by
  refine (engine_yes b w (h.1.c 10 rfl)).mono ?_
  rintro e w' ⟨rfl, rfl⟩
  exact ⟨⟨b, rfl, h.1, rfl⟩, Below.refl _ _⟩
theorem weak {v : Value} {s : En} {x : Value} {G : Nat → Prop} {w : World} (h : Calls Try.prog 27 #[v] w fun e w' => (∃ b, e = .returned (me b) ∧ EX w' b s false x ∧ G b) ∧ Below w.heap.size w w') :
    Calls Try.prog 27 #[v] w fun e w' => (∃ b, e = .returned (me b) ∧ EX w' b s false x) ∧ Below w.heap.size w w' :=
  h.mono fun _ _ ⟨⟨b, h1, h2, _⟩, h3⟩ => ⟨⟨b, h1, h2⟩, h3⟩
theorem Read_any (b : Nat) (s : En) (O : Nat → Prop) (reg : Int) (w : World) (h1 : I64 reg) (h : Eng w b s O) :
    Calls Try.prog 12 #[.pointer (some ⟨b, 0, none⟩), .int .i64 reg] w fun e w' => e = .returned (.int .u32 (readE s reg)) ∧ Below w.heap.size w w' :=
  read_q _ s (me b) reg w h1 (weak (yes h))
theorem Write_any (b : Nat) (s : En) (O : Nat → Prop) (reg v : Int) (w : World) (h1 : I64 reg) (h2 : 0 ≤ v ∧ v < 4294967296) (h : Eng w b s O) :
    Calls Try.prog 14 #[.pointer (some ⟨b, 0, none⟩), .int .i64 reg, .int .u32 v] w fun e w' => e = .returned (.tuple #[]) ∧ ∃ O', Eng w' b (writeE s reg v) O' ∧ Only O w w' ∧ ∀ j, O' j → O j ∨ w.heap.size ≤ j := by
  refine (write_q _ s (me b) reg v (fun k => k = b) w h1 h2 h.2.1 (yes h)).mono ?_
  rintro e w' ⟨rfl, k, hk, a1, a2⟩
  have hk : k = b := hk
  subst hk
  exact ⟨rfl, O, ⟨a1, inv_write h.2.1 reg v, h.2.2⟩, a2.mono (fun j _ e => (h.2.2 j).2 e), fun j hj => .inl hj⟩
theorem Line_any (b : Nat) (s : En) (O : Nat → Prop) (w : World) (h : Eng w b s O) :
    Calls Try.prog 20 #[.pointer (some ⟨b, 0, none⟩)] w fun e w' => e = .returned (.bool (lineE s)) ∧ Below w.heap.size w w' :=
  line_q _ s (me b) w (weak (yes h))
theorem State_any (b : Nat) (s : En) (O : Nat → Prop) (w : World) (h : Eng w b s O) :
    Calls Try.prog 18 #[.pointer (some ⟨b, 0, none⟩)] w fun e w' => e = .returned (stE s) ∧ Below w.heap.size w w' :=
  state_q _ s (me b) w (fun W hW => weak (yes (h.keep hW)))
theorem fn_nil (g : Nat) (rv lb : Array Value) (w : World) : (binOp .eql 54 (.func (.func g) rv lb) .nilFunc).run Try.prog w = .ok (.bool false) w := by
  have h : ∀ d : Nat, (Op.equalIn (d + 1) 54 (.func (.func g) rv lb) .nilFunc).run Try.prog w = .ok false w := fun d => by
    simp [Op.equalIn, run_underlying Try.underlying54]
  simp only [binOp]
  simp [Op.equal, Op.maxDepth, h 9999]
theorem nil_nil (w : World) : (binOp .eql 54 .nilFunc .nilFunc).run Try.prog w = .ok (.bool true) w := by
  have h : ∀ d : Nat, (Op.equalIn (d + 1) 54 .nilFunc .nilFunc).run Try.prog w = .ok true w := fun d => by
    simp [Op.equalIn, run_underlying Try.underlying54]
  simp only [binOp]
  simp [Op.equal, Op.maxDepth, h 9999]
theorem idle_q (v : Value) (s : En) (x : Value) (world : Int) (f : Value) (w : World) (hf : f = .nilFunc ∨ (s.busy = false ∧ ∃ g rv lb, f = .func (.func g) rv lb)) (ht : Calls Try.prog 27 #[v] w fun e w' => (∃ b, e = .returned (me b) ∧ EX w' b s false x) ∧ Below w.heap.size w w') :
    Calls Try.prog 17 #[v, .int .i64 world, f] w fun e w' => e = .returned (.bool false) ∧ Below w.heap.size w w' := by
  have T := Lib.hid ht
  clear ht
  have hn := nil_nil
  obtain ⟨F, T0, L, H, has, busy, den, don, cal⟩ := s
  rcases hf with rfl | ⟨hb, g, rv, lb, rfl⟩
  · cases busy
    all_goals
      go_enter Try.func17, Try.ntmps17
      go_wp2_with fail
      refine T.out.mono ?_
      rintro e w1 ⟨⟨b, rfl, h1⟩, hb1⟩
      have B1 := Lib.hid hb1
      have c5 := h1.c 5 rfl
      have c9 := h1.c 9 rfl
      clear h1 hb1
      go_wp2_with fail
      go_ret
      exact ⟨rfl, B1.out⟩
  · have hb : busy = false := hb
    subst hb
    go_enter Try.func17, Try.ntmps17
    go_wp2_with fail
    refine T.out.mono ?_
    rintro e w1 ⟨⟨b, rfl, h1⟩, hb1⟩
    have B1 := Lib.hid hb1
    have c5 := h1.c 5 rfl
    have c9 := h1.c 9 rfl
    clear h1 hb1
    go_wp2_with fail
    go_ret
    exact ⟨rfl, B1.out⟩
theorem Step_idle (b : Nat) (s : En) (O : Nat → Prop) (world : Int) (f : Value) (w : World) (h1 : I64 world) (h : Eng w b s O) (hf : f = .nilFunc ∨ (s.busy = false ∧ ∃ g rv lb, f = .func (.func g) rv lb)) :
    Calls Try.prog 17 #[.pointer (some ⟨b, 0, none⟩), .int .i64 world, f] w fun e w' => e = .returned (.bool false) ∧ Below w.heap.size w w' :=
  idle_q _ s (me b) world f w hf (weak (yes h))
theorem step_any (b : Nat) (s : En) (x : Value) (ga : Nat) (la : Array Value) (eg : ∀ args w, (callFunc ga args).run Try.prog w = .ok (.enter ga args) w) (R : World → Int → Int → World → Prop) (w : World) (hb : s.busy = true)
    (h : EX w b s false x) (hq : ∀ W, Below w.heap.size w W → Calls Try.prog ga (#[.bool s.has, .int .u32 (if s.has then s.T else s.F), .int .u32 (if s.has then s.H else 0)] ++ la) W fun e w' => ∃ v err, e = .returned (.tuple #[.int .u32 v, .bool (err == 0)]) ∧ (0 ≤ v ∧ v < 4294967296) ∧ R W v err w' ∧ EX w' b s false x) :
    Calls Try.prog 35 #[me b, .func (.func ga) #[] la] w fun e w' => e = .returned (.tuple #[]) ∧ Stepped R b s x w w' := by
  obtain ⟨F, T, L, H, has, busy, den, don, cal⟩ := s
  have hb : busy = true := hb
  subst hb
  cases has
  · have hH : H = 0 ∨ True := .inr trivial
    exact step_read b F T L H den don cal x ga la eg R w h hq
  · exact step_write b F T L H den don cal x ga la eg R w h hq
/-- What the asker left, behind the mark. -/
def Asked (S : Nat → Prop) (T : World → Int → Int → World → Prop) (b : Nat) (W : World) (v err : Int) (w' : World) : Prop :=
  ∃ W1, I64 err ∧ T (W.setCell ⟨b, 9, none⟩ (.bool true)) v err W1 ∧ Only S (W.setCell ⟨b, 9, none⟩ (.bool true)) W1 ∧ Only (fun j => j = b) W1 w'
/-- A step of one that is busy: W: the world in which it asks; W1: that in which it is answered; T: what the asker leaves; S: the blocks that the asker may turn. -/
theorem Step_busy (b : Nat) (s : En) (O : Nat → Prop) (world : Int) (g : Nat) (rv lb : Array Value) (S : Nat → Prop) (T : World → Int → Int → World → Prop) (w : World) (h1 : I64 world) (h : Eng w b s O) (hb : s.busy = true)
    (hS : ∀ j, S j → ¬ O j ∧ j < w.heap.size) (eg : ∀ args w, (callFunc g args).run Try.prog w = .ok (.enter g args) w)
    (ha : ∀ W, Only O w W → Calls Try.prog g (rv ++ #[nextE s world] ++ lb) W fun e w' => ∃ v err, e = .returned (.agg #[.int .u32 v, .int .i64 err]) ∧ (0 ≤ v ∧ v < 4294967296) ∧ I64 err ∧ T W v err w' ∧ Only S W w') :
    Calls Try.prog 17 #[.pointer (some ⟨b, 0, none⟩), .int .i64 world, .func (.func g) rv lb] w fun e w' => e = .returned (.bool true) ∧ ∃ v err W W1 O', (0 ≤ v ∧ v < 4294967296) ∧ I64 err ∧ Only O w W ∧ T W v err W1 ∧ Only S W W1 ∧ Only (fun j => O j ∨ (w.heap.size ≤ j ∧ j < W.heap.size)) W1 w' ∧ Eng w' b (toldE s v err) O' ∧ ∀ j, O' j → O j ∨ (w.heap.size ≤ j ∧ j < W.heap.size) ∨ W1.heap.size ≤ j := by
  have Y := Lib.hid (yes h)
  have hlt := h.1.lt
  have OB := Lib.hid ((h.2.2 b).2 rfl)
  -- behind the asker: what a step leaves
  have G := Lib.hid (show ∀ w2 pe pa pw, Below w.heap.size w w2 → Box w2 pe (me b) → Box w2 pa (.func (.func g) rv lb) → Box w2 pw (.int .i64 world) → w.heap.size ≤ pe → w.heap.size ≤ pa → w.heap.size ≤ pw →
      Calls Try.prog 35 #[me b, .func (.func 53) #[] #[me pe, me pa, me pw]] w2 fun e w' => e = .returned (.tuple #[]) ∧ Stepped (Asked S T b) b s (me b) w2 w' by
    intro w2 pe pa pw hw2 he hp hpw l1 l2 l3
    refine step_any b s (me b) _ _ (fun args w => by rfl) _ w2 hb (h.1.keep hw2) (fun W hW => ?_)
    have BW : Below w.heap.size w W := hw2.trans (hW.mono hw2.size)
    have hE := h.1.keep BW
    have hne : ∀ p, w.heap.size ≤ p → p ≠ b := fun p hp e => by omega
    have OM : Only O w (W.setCell ⟨b, 9, none⟩ (.bool true)) := (Only.of_below BW).setCell (p := ⟨b, 9, none⟩) OB.out _
    have key := asks_any b s (me b) pe pa pw g rv lb world S (fun v err w' => (0 ≤ v ∧ v < 4294967296) ∧ I64 err ∧ T (W.setCell ⟨b, 9, none⟩ (.bool true)) v err w') s.has (if s.has then s.T else s.F) (if s.has then s.H else 0) W hE (he.keep hW) (hp.keep hW) (hpw.keep hW)
      ⟨hne _ l1, hne _ l2, hne _ l3⟩ (fun j hj => ⟨fun e => (hS j hj).1 ((h.2.2 j).2 e), fun e => by have := (hS j hj).2; omega⟩) eg (by
        have e : nextE s world = accV world s.has (if s.has then s.T else s.F) 4 (if s.has then s.H else 0) := by
          unfold nextE
          cases s.has <;> rfl
        rw [← e]
        refine (ha _ OM).mono ?_
        rintro e w' ⟨v, err, h1, h2, h3, h4, h5⟩
        exact ⟨v, err, h1, ⟨h2, h3, h4⟩, h5⟩)
    refine key.mono ?_
    rintro e w' ⟨v, err, W1, h1, ⟨h2, h3, h4⟩, h5, h6, h7⟩
    exact ⟨v, err, h1, h2, ⟨W1, h3, h4, h5, h7⟩, h6⟩)
  have FIN := Lib.hid (show ∀ w2 w', Below w.heap.size w w2 → Stepped (Asked S T b) b s (me b) w2 w' → ∃ v err W W1 O', (0 ≤ v ∧ v < 4294967296) ∧ I64 err ∧ Only O w W ∧ T W v err W1 ∧ Only S W W1 ∧ Only (fun j => O j ∨ (w.heap.size ≤ j ∧ j < W.heap.size)) W1 w' ∧ Eng w' b (toldE s v err) O' ∧ ∀ j, O' j → O j ∨ (w.heap.size ≤ j ∧ j < W.heap.size) ∨ W1.heap.size ≤ j by
    rintro w2 w' hw2 ⟨W, W2, v, err, k1, k2, ⟨W1, k3, k4, k5, k6⟩, k7, k8⟩
    have BW : Below w.heap.size w W := hw2.trans (k1.mono hw2.size)
    refine ⟨v, err, _, W1, O, k2, k3, (Only.of_below BW).setCell (p := ⟨b, 9, none⟩) OB.out _, k4, k5, ?_, ⟨k7, inv_told h.1.ok h.2.1 hb v err, h.2.2⟩, fun j hj => .inl hj⟩
    exact (k6.trans k8).mono (fun j _ e => .inl ((h.2.2 j).2 e)))
  have hn := fun w => fn_nil g rv lb w
  obtain ⟨F, T0, L, H, has, busy, den, don, cal⟩ := s
  have hb : busy = true := hb
  subst hb
  clear ha h hlt OB
  go_enter Try.func17, Try.ntmps17
  go_wp2_with fail
  refine Y.out.mono ?_
  rintro e w1 ⟨⟨c, rfl, hx, rfl⟩, hb1⟩
  have B1 := Lib.hid hb1
  have c5 := hx.c 5 rfl
  have c9 := hx.c 9 rfl
  clear hx hb1 Y
  go_wp2_with fail
  refine (asker_any _ world g rv lb w1).mono ?_
  rintro e w2 ⟨⟨pe, pa, pw, rfl, k1, k2, k3, k4, k5, k6⟩, hb2⟩
  have B2 := Lib.hid (B1.out.trans (hb2.mono B1.out.size))
  have s1 := B1.out.size
  have C := Lib.hid (G.out w2 pe pa pw B2.out k1 k2 k3 (Nat.le_trans s1 k4) (Nat.le_trans s1 k5) (Nat.le_trans s1 k6))
  clear k1 k2 k3 k4 k5 k6 hb2 s1 c5 c9 G
  go_wp2_with fail
  refine C.out.mono ?_
  rintro e w3 ⟨rfl, hs⟩
  have R := Lib.hid (FIN.out w2 w3 B2.out hs)
  clear hs
  go_wp2_with fail
  go_ret
  exact ⟨rfl, R.out⟩
theorem readE_zero (reg : Int) : readE zeroE reg = 0 := by
  unfold readE
  split
  · rfl
  split
  · rfl
  split
  · rfl
  split <;> rfl
theorem Read_non (v : Value) (reg : Int) (w : World) (h1 : I64 reg) (h : Non w v) :
    Calls Try.prog 12 #[v, .int .i64 reg] w fun e w' => e = .returned (.int .u32 0) ∧ Below w.heap.size w w' := by
  rw [← readE_zero reg]
  exact read_q _ zeroE (.pointer none) reg w h1 (weak (engine_non v w h))
theorem Write_non (v : Value) (reg x : Int) (w : World) (h1 : I64 reg) (h2 : 0 ≤ x ∧ x < 4294967296) (h : Non w v) :
    Calls Try.prog 14 #[v, .int .i64 reg, .int .u32 x] w fun e w' => e = .returned (.tuple #[]) ∧ Below w.heap.size w w' := by
  refine (write_q v zeroE (.pointer none) reg x (fun k => w.heap.size ≤ k) w h1 h2 inv_zero (engine_non v w h)).mono ?_
  rintro e w' ⟨rfl, k, hk, a1, a2⟩
  exact ⟨rfl, a2.below (Nat.le_refl _) (fun j e => by have : j = k := e; rw [this]; exact hk)⟩
theorem Line_non (v : Value) (w : World) (h : Non w v) :
    Calls Try.prog 20 #[v] w fun e w' => e = .returned (.bool false) ∧ Below w.heap.size w w' := by
  rw [show false = lineE zeroE from rfl]
  exact line_q _ zeroE (.pointer none) w (weak (engine_non v w h))
theorem State_non (v : Value) (w : World) (h : Non w v) :
    Calls Try.prog 18 #[v] w fun e w' => e = .returned (stE zeroE) ∧ Below w.heap.size w w' :=
  state_q _ zeroE (.pointer none) w (fun W hW => weak (engine_non v W (h.keep hW)))
theorem Step_non (v : Value) (world : Int) (f : Value) (w : World) (h1 : I64 world) (h : Non w v) (hf : f = .nilFunc ∨ ∃ g rv lb, f = .func (.func g) rv lb) :
    Calls Try.prog 17 #[v, .int .i64 world, f] w fun e w' => e = .returned (.bool false) ∧ Below w.heap.size w w' :=
  idle_q v zeroE (.pointer none) world f w (hf.elim .inl (fun h => .inr ⟨rfl, h⟩)) (weak (engine_non v w h))
end Go.Proofs.Ythpkebcedaakhaa.Dma
