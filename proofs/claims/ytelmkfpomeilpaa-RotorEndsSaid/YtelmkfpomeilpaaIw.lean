/- Package rotor's contracts. Rot w b s O: the rotor in block b has s; O: the blocks that are its own. -/
import Derived.Test.YtelmkfpomeilpaaIv
namespace Go.Proofs.Ytelmkfpomeilpaa.Rotor
open Go.RowKit Go.Maps Fifo Orow Exact Ring Fmap
set_option linter.unusedVariables false

def Rot (w : World) (b : Nat) (s : RS) (O : Nat → Prop) : Prop := RW w b s (me b) ∧ ∀ j, O j ↔ j = b
theorem Rot.only {S O : Nat → Prop} {w w' : World} {b : Nat} {s : RS} (h : Rot w b s O) (ho : Only S w w') (hn : ∀ j, O j → ¬ S j) : Rot w' b s O := ⟨h.1.only ho (hn b ((h.2 b).2 rfl)), h.2⟩
theorem Rot.keep {O : Nat → Prop} {w w' : World} {b : Nat} {s : RS} (h : Rot w b s O) (hb : Below w.heap.size w w') : Rot w' b s O := ⟨h.1.keep hb, h.2⟩
theorem Rot.lt {O : Nat → Prop} {w : World} {b : Nat} {s : RS} (h : Rot w b s O) : ∀ j, O j → j < w.heap.size := fun j hj => by rw [(h.2 j).1 hj]; exact h.1.lt
theorem Rot.ok {O : Nat → Prop} {w : World} {b : Nat} {s : RS} (h : Rot w b s O) : OkR s := h.1.ok
theorem New_any (w : World) :
    Calls Try.prog 15 #[] w fun e w' => (∃ b O, e = .returned (.pointer (some ⟨b, 0, none⟩)) ∧ Rot w' b zeroR O ∧ ∀ j, O j → w.heap.size ≤ j) ∧ Below w.heap.size w w' := by
  have L := Lib.hid (fun W => laid_any 0 0 zeroR (.pointer none) W pt_zero ⟨by show (0 : Int) ≤ 0; omega, by show (0 : Int) < _; omega⟩)
  go_enter Try.func15, Try.ntmps15
  go_wp2_with fail
  refine (L.out _).mono ?_
  rintro e w1 ⟨⟨b, rfl, h1, h2⟩, hb⟩
  have R := Lib.hid (And.intro h1 (And.intro h2 hb))
  clear h1 h2 hb
  go_wp2_with fail
  go_ret
  exact ⟨⟨b, fun j => j = b, rfl, ⟨R.out.1, fun j => Iff.rfl⟩, fun j e => by have e : j = b := e; rw [e]; exact R.out.2.1⟩, R.out.2.2⟩
theorem fzero_r (w : World) : (zeroValue 66).run Try.prog w = .ok .nilFunc w := by kernel_rfl
theorem fzero_w (w : World) : (zeroValue 62).run Try.prog w = .ok .nilFunc w := by kernel_rfl
theorem look_r {w : World} {g b : Nat} (h : FM Try.prog 3 .i64 w g (readL b)) (k : Int) (hk : I64 k) : (Instr.lookup 68 (.map (some g)) (.int .i64 k) true).run Try.prog w = .ok (.tuple #[(atR (readL b) k).getD .nilFunc, .bool (atR (readL b) k).isSome]) w :=
  h.look keyK Try.underlying68 (fzero_r w) k (key_mk k hk)
theorem look_w {w : World} {g b : Nat} (h : FM Try.prog 3 .i64 w g (writeL b)) (k : Int) (hk : I64 k) : (Instr.lookup 64 (.map (some g)) (.int .i64 k) true).run Try.prog w = .ok (.tuple #[(atR (writeL b) k).getD .nilFunc, .bool (atR (writeL b) k).isSome]) w :=
  h.look keyK Try.underlying64 (fzero_w w) k (key_mk k hk)
theorem atR_r {b : Nat} {k : Int} (h0 : ¬ k = 0) (h4 : ¬ k = 4) : atR (readL b) k = none := by
  simp only [readL, atR]
  rw [if_neg h4, if_neg h0]
theorem atR_w {b : Nat} {k : Int} (h0 : ¬ k = 0) (h1 : ¬ k = 1) (h2 : ¬ k = 2) (h3 : ¬ k = 3) : atR (writeL b) k = none := by
  simp only [writeL, atR]
  rw [if_neg h3, if_neg h2, if_neg h1, if_neg h0]
theorem read_0 (v : Value) (s : RS) (x : Value) (w : World) (ht : Calls Try.prog 34 #[v] w fun e w' => (∃ b, e = .returned (me b) ∧ RW w' b s x) ∧ Below w.heap.size w w') :
    Calls Try.prog 20 #[v, .int .i64 0] w fun e w' => e = .returned (.int .u32 (wd s.p)) ∧ Below w.heap.size w w' := by
  have hr : I64 0 := ⟨by decide, by decide⟩
  have T := Lib.hid ht
  have Kr := Lib.hid hr
  clear ht hr
  go_enter Try.func20, Try.ntmps20
  go_wp2_with fail
  refine T.out.mono ?_
  rintro e w1 ⟨⟨b, rfl, h1⟩, hb1⟩
  have T1 := Lib.hid h1
  have B1 := Lib.hid hb1
  clear h1 hb1
  go_wp2_with fail
  refine (reads_any b w1).mono ?_
  rintro e w2 ⟨⟨g, rfl, hm⟩, hb⟩
  have T2 := Lib.hid (T1.out.keep hb)
  have B2 := Lib.hid (B1.out.trans (hb.mono B1.out.size))
  have lk := look_r hm _ Kr.out
  clear hm hb
  rw [show atR (readL b) 0 = some (meth 36 b) from rfl] at lk
  simp only [Option.getD_some, Option.isSome_some, meth] at lk
  go_wp2_with fail
  refine (word_any b s x w2 T2.out).mono ?_
  rintro e w3 ⟨rfl, rfl⟩
  go_wp2_with fail
  go_ret
  exact ⟨rfl, B2.out⟩
theorem read_4 (v : Value) (s : RS) (x : Value) (w : World) (ht : Calls Try.prog 34 #[v] w fun e w' => (∃ b, e = .returned (me b) ∧ RW w' b s x) ∧ Below w.heap.size w w') :
    Calls Try.prog 20 #[v, .int .i64 4] w fun e w' => e = .returned (.int .u32 s.n) ∧ Below w.heap.size w w' := by
  have hr : I64 4 := ⟨by decide, by decide⟩
  have T := Lib.hid ht
  have Kr := Lib.hid hr
  clear ht hr
  go_enter Try.func20, Try.ntmps20
  go_wp2_with fail
  refine T.out.mono ?_
  rintro e w1 ⟨⟨b, rfl, h1⟩, hb1⟩
  have T1 := Lib.hid h1
  have B1 := Lib.hid hb1
  clear h1 hb1
  go_wp2_with fail
  refine (reads_any b w1).mono ?_
  rintro e w2 ⟨⟨g, rfl, hm⟩, hb⟩
  have T2 := Lib.hid (T1.out.keep hb)
  have B2 := Lib.hid (B1.out.trans (hb.mono B1.out.size))
  have lk := look_r hm _ Kr.out
  clear hm hb
  rw [show atR (readL b) 4 = some (meth 47 b) from rfl] at lk
  simp only [Option.getD_some, Option.isSome_some, meth] at lk
  go_wp2_with fail
  refine (stepsNow_any b s x w2 T2.out).mono ?_
  rintro e w3 ⟨rfl, rfl⟩
  go_wp2_with fail
  go_ret
  exact ⟨rfl, B2.out⟩
theorem read_none (v : Value) (s : RS) (x : Value) (reg : Int) (w : World) (hr : I64 reg) (h0 : ¬ reg = 0) (h4 : ¬ reg = 4) (ht : Calls Try.prog 34 #[v] w fun e w' => (∃ b, e = .returned (me b) ∧ RW w' b s x) ∧ Below w.heap.size w w') :
    Calls Try.prog 20 #[v, .int .i64 reg] w fun e w' => e = .returned (.int .u32 0) ∧ Below w.heap.size w w' := by
  have E := Lib.hid (fun b => atR_r (b := b) h0 h4)
  clear h0 h4
  have T := Lib.hid ht
  have Kr := Lib.hid hr
  clear ht hr
  go_enter Try.func20, Try.ntmps20
  go_wp2_with fail
  refine T.out.mono ?_
  rintro e w1 ⟨⟨b, rfl, h1⟩, hb1⟩
  have T1 := Lib.hid h1
  have B1 := Lib.hid hb1
  clear h1 hb1
  go_wp2_with fail
  refine (reads_any b w1).mono ?_
  rintro e w2 ⟨⟨g, rfl, hm⟩, hb⟩
  have T2 := Lib.hid (T1.out.keep hb)
  have B2 := Lib.hid (B1.out.trans (hb.mono B1.out.size))
  have lk := look_r hm _ Kr.out
  clear hm hb
  rw [E.out b] at lk
  simp only [Option.getD_none, Option.isSome_none] at lk
  go_wp2_with fail
  go_ret
  exact ⟨rfl, B2.out⟩
theorem read_q (v : Value) (s : RS) (x : Value) (reg : Int) (w : World) (hr : I64 reg) (ht : Calls Try.prog 34 #[v] w fun e w' => (∃ b, e = .returned (me b) ∧ RW w' b s x) ∧ Below w.heap.size w w') :
    Calls Try.prog 20 #[v, .int .i64 reg] w fun e w' => e = .returned (.int .u32 (readR s reg)) ∧ Below w.heap.size w w' := by
  unfold readR
  by_cases h0 : reg = 0
  · subst h0
    rw [if_pos rfl]
    exact read_0 v s x w ht
  · rw [if_neg h0]
    by_cases h4 : reg = 4
    · subst h4
      rw [if_pos rfl]
      exact read_4 v s x w ht
    · rw [if_neg h4]
      exact read_none v s x reg w hr h0 h4 ht
theorem write_0 (v : Value) (s : RS) (x : Value) (n : Int) (G : Nat → Prop) (w : World) (hn : 0 ≤ n ∧ n < 4294967296) (ht : Calls Try.prog 34 #[v] w fun e w' => (∃ b, e = .returned (me b) ∧ RW w' b s x ∧ G b) ∧ Below w.heap.size w w') :
    Calls Try.prog 17 #[v, .int .i64 0, .int .u32 n] w fun e w' => e = .returned (.tuple #[]) ∧ ∃ b, G b ∧ RW w' b ⟨pt n, s.n⟩ x ∧ Only (fun j => j = b) w w' := by
  have hr : I64 0 := ⟨by decide, by decide⟩
  have T := Lib.hid ht
  have Kr := Lib.hid hr
  have HN := Lib.hid hn
  clear ht hr hn
  go_enter Try.func17, Try.ntmps17
  go_wp2_with fail
  refine T.out.mono ?_
  rintro e w1 ⟨⟨b, rfl, h1, h2⟩, hb1⟩
  have T1 := Lib.hid h1
  have HG := Lib.hid h2
  have B1 := Lib.hid hb1
  clear h1 h2 hb1
  go_wp2_with fail
  refine (writes_any b w1).mono ?_
  rintro e w2 ⟨⟨g, rfl, hm⟩, hb⟩
  have T2 := Lib.hid (T1.out.keep hb)
  have B2 := Lib.hid (B1.out.trans (hb.mono B1.out.size))
  have lk := look_w hm _ Kr.out
  clear hm hb
  rw [show atR (writeL b) 0 = some (meth 43 b) from rfl] at lk
  simp only [Option.getD_some, Option.isSome_some, meth] at lk
  go_wp2_with fail
  refine (become_any b s x n w2 HN.out T2.out).mono ?_
  rintro e w3 ⟨rfl, h3, h4⟩
  have R := Lib.hid (And.intro h3 (show Only (fun j => j = b) w w3 from (Only.of_below B2.out).trans h4))
  clear h3 h4
  go_wp2_with fail
  go_end0
  exact ⟨rfl, b, HG.out, R.out⟩
theorem write_1 (v : Value) (s : RS) (x : Value) (n : Int) (G : Nat → Prop) (w : World) (hn : 0 ≤ n ∧ n < 4294967296) (ht : Calls Try.prog 34 #[v] w fun e w' => (∃ b, e = .returned (me b) ∧ RW w' b s x ∧ G b) ∧ Below w.heap.size w w') :
    Calls Try.prog 17 #[v, .int .i64 1, .int .u32 n] w fun e w' => e = .returned (.tuple #[]) ∧ ∃ b, G b ∧ RW w' b ⟨add s.p (pt n), incR s⟩ x ∧ Only (fun j => j = b) w w' := by
  have hr : I64 1 := ⟨by decide, by decide⟩
  have T := Lib.hid ht
  have Kr := Lib.hid hr
  have HN := Lib.hid hn
  clear ht hr hn
  go_enter Try.func17, Try.ntmps17
  go_wp2_with fail
  refine T.out.mono ?_
  rintro e w1 ⟨⟨b, rfl, h1, h2⟩, hb1⟩
  have T1 := Lib.hid h1
  have HG := Lib.hid h2
  have B1 := Lib.hid hb1
  clear h1 h2 hb1
  go_wp2_with fail
  refine (writes_any b w1).mono ?_
  rintro e w2 ⟨⟨g, rfl, hm⟩, hb⟩
  have T2 := Lib.hid (T1.out.keep hb)
  have B2 := Lib.hid (B1.out.trans (hb.mono B1.out.size))
  have lk := look_w hm _ Kr.out
  clear hm hb
  rw [show atR (writeL b) 1 = some (meth 44 b) from rfl] at lk
  simp only [Option.getD_some, Option.isSome_some, meth] at lk
  go_wp2_with fail
  refine (stepPlus_any b s x n w2 HN.out T2.out).mono ?_
  rintro e w3 ⟨rfl, h3, h4⟩
  have R := Lib.hid (And.intro h3 (show Only (fun j => j = b) w w3 from (Only.of_below B2.out).trans h4))
  clear h3 h4
  go_wp2_with fail
  go_end0
  exact ⟨rfl, b, HG.out, R.out⟩
theorem write_2 (v : Value) (s : RS) (x : Value) (n : Int) (G : Nat → Prop) (w : World) (hn : 0 ≤ n ∧ n < 4294967296) (ht : Calls Try.prog 34 #[v] w fun e w' => (∃ b, e = .returned (me b) ∧ RW w' b s x ∧ G b) ∧ Below w.heap.size w w') :
    Calls Try.prog 17 #[v, .int .i64 2, .int .u32 n] w fun e w' => e = .returned (.tuple #[]) ∧ ∃ b, G b ∧ RW w' b ⟨mul s.p (pt n), incR s⟩ x ∧ Only (fun j => j = b) w w' := by
  have hr : I64 2 := ⟨by decide, by decide⟩
  have T := Lib.hid ht
  have Kr := Lib.hid hr
  have HN := Lib.hid hn
  clear ht hr hn
  go_enter Try.func17, Try.ntmps17
  go_wp2_with fail
  refine T.out.mono ?_
  rintro e w1 ⟨⟨b, rfl, h1, h2⟩, hb1⟩
  have T1 := Lib.hid h1
  have HG := Lib.hid h2
  have B1 := Lib.hid hb1
  clear h1 h2 hb1
  go_wp2_with fail
  refine (writes_any b w1).mono ?_
  rintro e w2 ⟨⟨g, rfl, hm⟩, hb⟩
  have T2 := Lib.hid (T1.out.keep hb)
  have B2 := Lib.hid (B1.out.trans (hb.mono B1.out.size))
  have lk := look_w hm _ Kr.out
  clear hm hb
  rw [show atR (writeL b) 2 = some (meth 45 b) from rfl] at lk
  simp only [Option.getD_some, Option.isSome_some, meth] at lk
  go_wp2_with fail
  refine (stepTimes_any b s x n w2 HN.out T2.out).mono ?_
  rintro e w3 ⟨rfl, h3, h4⟩
  have R := Lib.hid (And.intro h3 (show Only (fun j => j = b) w w3 from (Only.of_below B2.out).trans h4))
  clear h3 h4
  go_wp2_with fail
  go_end0
  exact ⟨rfl, b, HG.out, R.out⟩
theorem write_3 (v : Value) (s : RS) (x : Value) (n : Int) (G : Nat → Prop) (w : World) (hn : 0 ≤ n ∧ n < 4294967296) (ht : Calls Try.prog 34 #[v] w fun e w' => (∃ b, e = .returned (me b) ∧ RW w' b s x ∧ G b) ∧ Below w.heap.size w w') :
    Calls Try.prog 17 #[v, .int .i64 3, .int .u32 n] w fun e w' => e = .returned (.tuple #[]) ∧ ∃ b, G b ∧ RW w' b ⟨turn s.p n.toNat, incR s⟩ x ∧ Only (fun j => j = b) w w' := by
  have hr : I64 3 := ⟨by decide, by decide⟩
  have T := Lib.hid ht
  have Kr := Lib.hid hr
  have HN := Lib.hid hn
  clear ht hr hn
  go_enter Try.func17, Try.ntmps17
  go_wp2_with fail
  refine T.out.mono ?_
  rintro e w1 ⟨⟨b, rfl, h1, h2⟩, hb1⟩
  have T1 := Lib.hid h1
  have HG := Lib.hid h2
  have B1 := Lib.hid hb1
  clear h1 h2 hb1
  go_wp2_with fail
  refine (writes_any b w1).mono ?_
  rintro e w2 ⟨⟨g, rfl, hm⟩, hb⟩
  have T2 := Lib.hid (T1.out.keep hb)
  have B2 := Lib.hid (B1.out.trans (hb.mono B1.out.size))
  have lk := look_w hm _ Kr.out
  clear hm hb
  rw [show atR (writeL b) 3 = some (meth 46 b) from rfl] at lk
  simp only [Option.getD_some, Option.isSome_some, meth] at lk
  go_wp2_with fail
  refine (stepTurn_any b s x n w2 HN.out T2.out).mono ?_
  rintro e w3 ⟨rfl, h3, h4⟩
  have R := Lib.hid (And.intro h3 (show Only (fun j => j = b) w w3 from (Only.of_below B2.out).trans h4))
  clear h3 h4
  go_wp2_with fail
  go_end0
  exact ⟨rfl, b, HG.out, R.out⟩
theorem write_none (v : Value) (s : RS) (x : Value) (reg : Int) (n : Int) (G : Nat → Prop) (w : World) (hr : I64 reg) (h0 : ¬ reg = 0) (h1 : ¬ reg = 1) (h2 : ¬ reg = 2) (h3 : ¬ reg = 3) (hn : 0 ≤ n ∧ n < 4294967296) (ht : Calls Try.prog 34 #[v] w fun e w' => (∃ b, e = .returned (me b) ∧ RW w' b s x ∧ G b) ∧ Below w.heap.size w w') :
    Calls Try.prog 17 #[v, .int .i64 reg, .int .u32 n] w fun e w' => e = .returned (.tuple #[]) ∧ ∃ b, G b ∧ RW w' b s x ∧ Only (fun j => j = b) w w' := by
  have E := Lib.hid (fun b => atR_w (b := b) h0 h1 h2 h3)
  clear h0 h1 h2 h3
  have T := Lib.hid ht
  have Kr := Lib.hid hr
  have HN := Lib.hid hn
  clear ht hr hn
  go_enter Try.func17, Try.ntmps17
  go_wp2_with fail
  refine T.out.mono ?_
  rintro e w1 ⟨⟨b, rfl, h1, h2⟩, hb1⟩
  have T1 := Lib.hid h1
  have HG := Lib.hid h2
  have B1 := Lib.hid hb1
  clear h1 h2 hb1
  go_wp2_with fail
  refine (writes_any b w1).mono ?_
  rintro e w2 ⟨⟨g, rfl, hm⟩, hb⟩
  have T2 := Lib.hid (T1.out.keep hb)
  have B2 := Lib.hid (B1.out.trans (hb.mono B1.out.size))
  have lk := look_w hm _ Kr.out
  clear hm hb
  rw [E.out b] at lk
  simp only [Option.getD_none, Option.isSome_none] at lk
  go_wp2_with fail
  go_end0
  exact ⟨rfl, b, HG.out, T2.out, Only.of_below B2.out⟩
theorem write_q (v : Value) (s : RS) (x : Value) (reg n : Int) (G : Nat → Prop) (w : World) (hr : I64 reg) (hn : 0 ≤ n ∧ n < 4294967296) (ht : Calls Try.prog 34 #[v] w fun e w' => (∃ b, e = .returned (me b) ∧ RW w' b s x ∧ G b) ∧ Below w.heap.size w w') :
    Calls Try.prog 17 #[v, .int .i64 reg, .int .u32 n] w fun e w' => e = .returned (.tuple #[]) ∧ ∃ b, G b ∧ RW w' b (writeR s reg n) x ∧ Only (fun j => j = b) w w' := by
  unfold writeR
  by_cases h0 : reg = 0
  · subst h0
    rw [if_pos rfl]
    exact write_0 v s x n G w hn ht
  rw [if_neg h0]
  by_cases h1 : reg = 1
  · subst h1
    rw [if_pos rfl]
    exact write_1 v s x n G w hn ht
  rw [if_neg h1]
  by_cases h2 : reg = 2
  · subst h2
    rw [if_pos rfl]
    exact write_2 v s x n G w hn ht
  rw [if_neg h2]
  by_cases h3 : reg = 3
  · subst h3
    rw [if_pos rfl]
    exact write_3 v s x n G w hn ht
  rw [if_neg h3]
  exact write_none v s x reg n G w hr h0 h1 h2 h3 hn ht
theorem Read_any (b : Nat) (s : RS) (O : Nat → Prop) (reg : Int) (w : World) (h1 : I64 reg) (h : Rot w b s O) :
    Calls Try.prog 20 #[.pointer (some ⟨b, 0, none⟩), .int .i64 reg] w fun e w' => e = .returned (.int .u32 (readR s reg)) ∧ Below w.heap.size w w' := by
  refine read_q _ s (me b) reg w h1 ((rotor_yes b w h.1.c2).mono ?_)
  rintro e w' ⟨rfl, rfl⟩
  exact ⟨⟨b, rfl, h.1⟩, Below.refl _ _⟩
theorem readR_zero (reg : Int) : readR zeroR reg = 0 := by
  unfold readR
  split
  · rfl
  · split <;> rfl
theorem Read_non (v : Value) (reg : Int) (w : World) (h1 : I64 reg) (h : Non w v) :
    Calls Try.prog 20 #[v, .int .i64 reg] w fun e w' => e = .returned (.int .u32 0) ∧ Below w.heap.size w w' := by
  rw [← readR_zero reg]
  refine read_q _ zeroR (.pointer none) reg w h1 ((rotor_non v w h).mono ?_)
  rintro e w' ⟨⟨b, rfl, h1, _⟩, hb⟩
  exact ⟨⟨b, rfl, h1⟩, hb⟩
theorem Write_any (b : Nat) (s : RS) (O : Nat → Prop) (reg v : Int) (w : World) (h1 : I64 reg) (h2 : 0 ≤ v ∧ v < 4294967296) (h : Rot w b s O) :
    Calls Try.prog 17 #[.pointer (some ⟨b, 0, none⟩), .int .i64 reg, .int .u32 v] w fun e w' => e = .returned (.tuple #[]) ∧ ∃ O', Rot w' b (writeR s reg v) O' ∧ Only O w w' ∧ ∀ j, O' j → O j ∨ w.heap.size ≤ j := by
  refine (write_q _ s (me b) reg v (fun k => k = b) w h1 h2 ((rotor_yes b w h.1.c2).mono ?_)).mono ?_
  · rintro e w' ⟨rfl, rfl⟩
    exact ⟨⟨b, rfl, h.1, rfl⟩, Below.refl _ _⟩
  · rintro e w' ⟨rfl, k, hk, a1, a2⟩
    have hk : k = b := hk
    subst hk
    exact ⟨rfl, O, ⟨a1, h.2⟩, a2.mono (fun j _ e => (h.2 j).2 e), fun j hj => .inl hj⟩
theorem Write_non (v : Value) (reg x : Int) (w : World) (h1 : I64 reg) (h2 : 0 ≤ x ∧ x < 4294967296) (h : Non w v) :
    Calls Try.prog 17 #[v, .int .i64 reg, .int .u32 x] w fun e w' => e = .returned (.tuple #[]) ∧ Below w.heap.size w w' := by
  refine (write_q v zeroR (.pointer none) reg x (fun k => w.heap.size ≤ k) w h1 h2 ((rotor_non v w h).mono ?_)).mono ?_
  · rintro e w' ⟨⟨b, rfl, h1, h2⟩, hb⟩
    exact ⟨⟨b, rfl, h1, h2⟩, hb⟩
  · rintro e w' ⟨rfl, k, hk, a1, a2⟩
    exact ⟨rfl, a2.below (Nat.le_refl _) (fun j e => by have : j = k := e; rw [this]; exact hk)⟩
theorem state_q (v : Value) (s : RS) (x : Value) (w : World) (ht : Calls Try.prog 34 #[v] w fun e w' => (∃ b, e = .returned (me b) ∧ RW w' b s x) ∧ Below w.heap.size w w') :
    Calls Try.prog 19 #[v] w fun e w' => e = .returned (.tuple #[.int .u32 (wd s.p), .int .u32 s.n]) ∧ Below w.heap.size w w' := by
  have T := Lib.hid ht
  clear ht
  go_enter Try.func19, Try.ntmps19
  go_wp2_with fail
  refine T.out.mono ?_
  rintro e w1 ⟨⟨b, rfl, x0, y0, h1⟩, hb1⟩
  have T1 := Lib.hid h1
  have B1 := Lib.hid hb1
  clear h1 hb1
  go_wp2_with fail
  refine wp_region_ext (by kernel_rfl) (by kernel_rfl) ?_
  intro W hW
  have TW := Lib.hid (show RX W b x0 y0 s x by rw [hW.out]; exact T1.out)
  have BW := Lib.hid (show Below w.heap.size w W by rw [hW.out]; exact B1.out)
  clear hW
  have c1 := ext_cell TW.out.c1
  have C := Lib.hid (fun p => word_any b s x (ext W p) ⟨x0, y0, TW.out.keep (ext_below W p)⟩)
  repeat (go_big_quiet_step ((go_at_call 36; with_reducible exact ext_same (C.out _))))
  refine wpQuiet_nil ?_
  intro w' hw'
  obtain ⟨p, rfl⟩ := hw'
  have R := Lib.hid (BW.out.trans ((ext_below W p).mono BW.out.size))
  go_wp2_with fail
  go_ret2
  exact ⟨rfl, R.out⟩
theorem State_any (b : Nat) (s : RS) (O : Nat → Prop) (w : World) (h : Rot w b s O) :
    Calls Try.prog 19 #[.pointer (some ⟨b, 0, none⟩)] w fun e w' => e = .returned (.tuple #[.int .u32 (wd s.p), .int .u32 s.n]) ∧ Below w.heap.size w w' := by
  refine state_q _ s (me b) w ((rotor_yes b w h.1.c2).mono ?_)
  rintro e w' ⟨rfl, rfl⟩
  exact ⟨⟨b, rfl, h.1⟩, Below.refl _ _⟩
theorem State_non (v : Value) (w : World) (h : Non w v) :
    Calls Try.prog 19 #[v] w fun e w' => e = .returned (.tuple #[.int .u32 0, .int .u32 0]) ∧ Below w.heap.size w w' := by
  refine state_q _ zeroR (.pointer none) w ((rotor_non v w h).mono ?_)
  rintro e w' ⟨⟨b, rfl, h1, _⟩, hb⟩
  exact ⟨⟨b, rfl, h1⟩, hb⟩
theorem Copy_any (b : Nat) (s : RS) (O : Nat → Prop) (w : World) (h : Rot w b s O) :
    Calls Try.prog 22 #[.pointer (some ⟨b, 0, none⟩)] w fun e w' => (∃ c O', e = .returned (.pointer (some ⟨c, 0, none⟩)) ∧ Rot w' c s O' ∧ ∀ j, O' j → w.heap.size ≤ j) ∧ Below w.heap.size w w' := by
  obtain ⟨⟨x, y, h⟩, _⟩ := h
  have I := Lib.hid (is_yes b w h.c2)
  have L := Lib.hid (fun W => laid_any x y s (.pointer none) W h.pt h.n)
  have hS0 : RX w.drew b x y s (me b) := h.keep (Below.refl _ _).drew
  have l0 : ∀ w', RX w' b x y s (me b) → w'.cell? ⟨b, 0, none⟩ = some (.complex .f64 x y) := fun w' h => h.c0
  have l1 : ∀ w', RX w' b x y s (me b) → w'.cell? ⟨b, 1, none⟩ = some (.int .u32 s.n) := fun w' h => h.c1
  clear h
  go_enter Try.func22, Try.ntmps22
  go_wp2_with fail
  refine I.out.mono ?_
  rintro e w1 ⟨rfl, rfl⟩
  go_wp2_with fail
  go_region_held3 (fun w' => RX w' b x y s (me b))
    (first | assumption)
    (first | (go_at_call 33; refine (L.out _).mono ?_; rintro e w1 ⟨⟨c, rfl, h1, h2⟩, hb⟩; have hS1 : RX w1 b x y s (me b) := RX.keep hS0 hb; have R := Lib.hid (And.intro h1 (And.intro h2 (drew_to hb))); clear h1 h2 hb))
  all_goals
    go_wp2_with fail
    go_ret
    exact ⟨⟨c, fun j => j = c, rfl, ⟨R.out.1, fun j => Iff.rfl⟩, fun j e => by have e : j = c := e; rw [e]; exact R.out.2.1⟩, R.out.2.2⟩
theorem Copy_non (v : Value) (w : World) (h : Non w v) :
    Calls Try.prog 22 #[v] w fun e w' => e = .returned (.pointer none) ∧ Below w.heap.size w w' := by
  have I := Lib.hid (is_non v w h)
  clear h
  go_enter Try.func22, Try.ntmps22
  go_wp2_with fail
  refine I.out.mono ?_
  rintro e w1 ⟨rfl, rfl⟩
  go_wp2_with fail
  go_ret
  exact ⟨rfl, Below.refl _ _⟩
end Go.Proofs.Ytelmkfpomeilpaa.Rotor
