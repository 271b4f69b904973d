/- Package uart's contracts. Uar w b u O: the uart in block b has u; O: the blocks that are its own. -/
import Derived.Test.YthdcealhhmfgcaaQy
namespace Go.Proofs.Ythdcealhhmfgcaa.Uart
open Go.RowKit Go.Maps Go.ChangeShapes Go.WideShapes Go.ChangeAt Fifo Orow Word Fmap
set_option linter.unusedVariables false

def Uar (w : World) (b : Nat) (u : Un) (O : Nat → Prop) : Prop := UW w b 8 u (me b) O
theorem Uar.only {S O : Nat → Prop} {w w' : World} {b : Nat} {u : Un} (h : Uar w b u O) (ho : Only S w w') (hn : ∀ j, O j → ¬ S j) : Uar w' b u O := UW.only h ho hn
theorem Uar.keep {O : Nat → Prop} {w w' : World} {b : Nat} {u : Un} (h : Uar w b u O) (hb : Below w.heap.size w w') : Uar w' b u O := UW.keep h hb
theorem Uar.lt {O : Nat → Prop} {w : World} {b : Nat} {u : Un} (h : Uar w b u O) : ∀ j, O j → j < w.heap.size := UW.lt h
theorem Uar.ok {O : Nat → Prop} {w : World} {b : Nat} {u : Un} (h : Uar w b u O) : OkU u := UW.ok h
/-- Which one is asked: itself, or one that nobody has. -/
def Asked (v : Value) (w : World) (b room : Nat) (u : Un) (x : Value) (O : Nat → Prop) : Prop :=
  Calls Try.prog 27 #[v] w fun e w' => e = .returned (me b) ∧ UW w' b room u x O ∧ Only O w w'
theorem Asked.yes {O : Nat → Prop} {w : World} {b : Nat} {u : Un} (h : Uar w b u O) : Asked (me b) w b 8 u (me b) O := by
  obtain ⟨p, q, A, B, h2, e⟩ := h
  refine (uart_yes b w (h2.blk.at 5 rfl)).mono ?_
  rintro e w' ⟨rfl, rfl⟩
  exact ⟨rfl, ⟨p, q, A, B, h2, by assumption⟩, Only.refl _ _⟩
theorem Asked.non {w : World} {v : Value} (h : Non w v) : Asked v w w.heap.size 0 zeroU (.pointer none) (fun j => j = w.heap.size) := by
  refine (uart_non v w h).mono ?_
  rintro e w' ⟨rfl, h1, hb⟩
  exact ⟨rfl, ⟨_, _, _, _, h1, fun j => ⟨fun e => .inl e, fun e => by rcases e with e | e | e; exact e; exact e.elim; exact e.elim⟩⟩, Only.of_below hb⟩
theorem fzero_r (w : World) : (zeroValue 58).run Try.prog w = .ok .nilFunc w := by kernel_rfl
theorem fzero_w (w : World) : (zeroValue 62).run Try.prog w = .ok .nilFunc w := by kernel_rfl
theorem look_r {w : World} {g b : Nat} (h : FM Try.prog 3 .i64 w g (readL b)) (k : Int) (hk : I64 k) : (Instr.lookup 60 (.map (some g)) (.int .i64 k) true).run Try.prog w = .ok (.tuple #[(atR (readL b) k).getD .nilFunc, .bool (atR (readL b) k).isSome]) w :=
  h.look keyK Try.underlying60 (fzero_r w) k (key_mk k hk)
theorem look_w {w : World} {g b : Nat} (h : FM Try.prog 3 .i64 w g (writeL b)) (k : Int) (hk : I64 k) : (Instr.lookup 64 (.map (some g)) (.int .i64 k) true).run Try.prog w = .ok (.tuple #[(atR (writeL b) k).getD .nilFunc, .bool (atR (writeL b) k).isSome]) w :=
  h.look keyK Try.underlying64 (fzero_w w) k (key_mk k hk)
/-- What a method leaves. -/
def Left (w w' : World) (b room : Nat) (u : Un) (x : Value) (O : Nat → Prop) : Prop := ∃ O', UW w' b room u x O' ∧ Only O w w' ∧ ∀ j, O' j → O j ∨ w.heap.size ≤ j
/-- Behind another step. -/
theorem Left.trans {w w1 w' : World} {b room : Nat} {u : Un} {x : Value} {O : Nat → Prop} (h : Only O w w1) (k : Left w1 w' b room u x O) : Left w w' b room u x O := by
  obtain ⟨O', k1, k2, k3⟩ := k
  exact ⟨O', k1, h.trans k2, fun j hj => (k3 j hj).imp id (fun e => Nat.le_trans h.size e)⟩
theorem read_q0 (v : Value) (b room : Nat) (u : Un) (x : Value) (O : Nat → Prop) (w : World) (ht : Asked v w b room u x O) :
    Calls Try.prog 10 #[v, .int .i64 0] w fun e w' => e = .returned (.int .u32 (readU u 0).1) ∧ Left w w' b room (readU u 0).2 x O := by
  have hr : I64 0 := ⟨by decide, by decide⟩
  have T := Lib.hid ht
  have Kr := Lib.hid hr
  clear ht hr
  go_enter Try.func10, Try.ntmps10
  go_wp2_with fail
  refine T.out.mono ?_
  rintro e w1 ⟨rfl, h1, hb1⟩
  have T1 := Lib.hid h1
  have B1 := Lib.hid hb1
  clear h1 hb1
  go_wp2_with fail
  refine (reads_any b w1).mono ?_
  rintro e w2 ⟨⟨g, rfl, hm⟩, hb⟩
  have T2 := Lib.hid (T1.out.keep hb)
  have B2 := Lib.hid (B1.out.trans (Only.of_below hb))
  have lk := look_r hm _ Kr.out
  clear hm hb
  rw [show atR (readL b) 0 = some (meth 40 b) from rfl] at lk
  simp only [Option.getD_some, Option.isSome_some, meth] at lk
  go_wp2_with fail
  refine (take_any b room u x O w2 T2.out).mono ?_
  rintro e w3 ⟨rfl, h3⟩
  have R := Lib.hid (Left.trans B2.out h3)
  clear h3 lk
  go_wp2_with fail
  go_ret
  exact ⟨rfl, R.out⟩
theorem read_q1 (v : Value) (b room : Nat) (u : Un) (x : Value) (O : Nat → Prop) (w : World) (ht : Asked v w b room u x O) :
    Calls Try.prog 10 #[v, .int .i64 1] w fun e w' => e = .returned (.int .u32 (readU u 1).1) ∧ Left w w' b room (readU u 1).2 x O := by
  have hr : I64 1 := ⟨by decide, by decide⟩
  have T := Lib.hid ht
  have Kr := Lib.hid hr
  clear ht hr
  go_enter Try.func10, Try.ntmps10
  go_wp2_with fail
  refine T.out.mono ?_
  rintro e w1 ⟨rfl, h1, hb1⟩
  have T1 := Lib.hid h1
  have B1 := Lib.hid hb1
  clear h1 hb1
  go_wp2_with fail
  refine (reads_any b w1).mono ?_
  rintro e w2 ⟨⟨g, rfl, hm⟩, hb⟩
  have T2 := Lib.hid (T1.out.keep hb)
  have B2 := Lib.hid (B1.out.trans (Only.of_below hb))
  have lk := look_r hm _ Kr.out
  clear hm hb
  rw [show atR (readL b) 1 = some (meth 41 b) from rfl] at lk
  simp only [Option.getD_some, Option.isSome_some, meth] at lk
  go_wp2_with fail
  refine (counts_any b room u x O w2 T2.out).mono ?_
  rintro e w3 ⟨rfl, h3⟩
  have R := Lib.hid (show Left w w3 b room u x O from ⟨O, T2.out.keep h3, B2.out.trans (Only.of_below h3), fun j hj => .inl hj⟩)
  clear h3 lk
  go_wp2_with fail
  go_ret
  exact ⟨rfl, R.out⟩
theorem read_q2 (v : Value) (b room : Nat) (u : Un) (x : Value) (O : Nat → Prop) (w : World) (ht : Asked v w b room u x O) :
    Calls Try.prog 10 #[v, .int .i64 2] w fun e w' => e = .returned (.int .u32 (readU u 2).1) ∧ Left w w' b room (readU u 2).2 x O := by
  have hr : I64 2 := ⟨by decide, by decide⟩
  have T := Lib.hid ht
  have Kr := Lib.hid hr
  clear ht hr
  go_enter Try.func10, Try.ntmps10
  go_wp2_with fail
  refine T.out.mono ?_
  rintro e w1 ⟨rfl, h1, hb1⟩
  have T1 := Lib.hid h1
  have B1 := Lib.hid hb1
  clear h1 hb1
  go_wp2_with fail
  refine (reads_any b w1).mono ?_
  rintro e w2 ⟨⟨g, rfl, hm⟩, hb⟩
  have T2 := Lib.hid (T1.out.keep hb)
  have B2 := Lib.hid (B1.out.trans (Only.of_below hb))
  have lk := look_r hm _ Kr.out
  clear hm hb
  rw [show atR (readL b) 2 = some (meth 42 b) from rfl] at lk
  simp only [Option.getD_some, Option.isSome_some, meth] at lk
  go_wp2_with fail
  refine (ctrlNow_any b room u x O w2 T2.out).mono ?_
  rintro e w3 ⟨rfl, rfl⟩
  have R := Lib.hid (show Left w w2 b room u x O from ⟨O, T2.out, B2.out, fun j hj => .inl hj⟩)
  clear lk
  go_wp2_with fail
  go_ret
  exact ⟨rfl, R.out⟩
theorem readU_other (u : Un) (k : Int) (h0 : k ≠ 0) (h1 : k ≠ 1) (h2 : k ≠ 2) : readU u k = (0, u) := by
  unfold readU
  rw [if_neg h0, if_neg h1, if_neg h2]
theorem read_qo (v : Value) (b room : Nat) (u : Un) (x : Value) (O : Nat → Prop) (k : Int) (w : World) (hk : I64 k) (h0 : k ≠ 0) (h1 : k ≠ 1) (h2 : k ≠ 2) (ht : Asked v w b room u x O) :
    Calls Try.prog 10 #[v, .int .i64 k] w fun e w' => e = .returned (.int .u32 0) ∧ Left w w' b room u x O := by
  have T := Lib.hid ht
  have Kr := Lib.hid hk
  have H := Lib.hid (And.intro h0 (And.intro h1 h2))
  clear ht hk h0 h1 h2
  go_enter Try.func10, Try.ntmps10
  go_wp2_with fail
  refine T.out.mono ?_
  rintro e w1 ⟨rfl, h1, hb1⟩
  have T1 := Lib.hid h1
  have B1 := Lib.hid hb1
  clear h1 hb1
  go_wp2_with fail
  refine (reads_any b w1).mono ?_
  rintro e w2 ⟨⟨g, rfl, hm⟩, hb⟩
  have T2 := Lib.hid (T1.out.keep hb)
  have B2 := Lib.hid (B1.out.trans (Only.of_below hb))
  have lk := look_r hm _ Kr.out
  clear hm hb
  rw [show atR (readL b) k = none by unfold readL atR; rw [if_neg H.out.2.2]; unfold atR; rw [if_neg H.out.2.1]; unfold atR; rw [if_neg H.out.1]; rfl] at lk
  simp only [Option.getD_none, Option.isSome_none] at lk
  have R := Lib.hid (show Left w w2 b room u x O from ⟨O, T2.out, B2.out, fun j hj => .inl hj⟩)
  go_wp2_with fail
  go_ret
  exact ⟨rfl, R.out⟩
theorem read_q (v : Value) (b room : Nat) (u : Un) (x : Value) (O : Nat → Prop) (k : Int) (w : World) (hk : I64 k) (ht : Asked v w b room u x O) :
    Calls Try.prog 10 #[v, .int .i64 k] w fun e w' => e = .returned (.int .u32 (readU u k).1) ∧ Left w w' b room (readU u k).2 x O := by
  by_cases h0 : k = 0
  · subst h0; exact read_q0 v b room u x O w ht
  by_cases h1 : k = 1
  · subst h1; exact read_q1 v b room u x O w ht
  by_cases h2 : k = 2
  · subst h2; exact read_q2 v b room u x O w ht
  rw [readU_other u k h0 h1 h2]
  exact read_qo v b room u x O k w hk h0 h1 h2 ht
/-- What is written, where there are so many places. -/
def writeR (room : Nat) (u : Un) (k v : Int) : Un := if k = 0 then sendR room u v else writeU u k v
theorem writeR_8 {u : Un} (h : OkU u) (k v : Int) : writeR 8 u k v = writeU u k v := by
  unfold writeR writeU sendR
  by_cases e : k = 0
  · rw [if_pos e, if_pos e]
    have := h.goes.2
    by_cases h8 : u.Goes.length = 8
    · rw [if_neg (by omega), if_pos h8]
    · rw [if_pos (by omega), if_neg h8]
  · rw [if_neg e]
theorem inputR_8 {u : Un} (h : OkU u) (b : Int) : inputR 8 u b = inputU u b := by
  unfold inputR inputU
  have := h.came.2
  by_cases h8 : u.Came.length = 8
  · rw [if_neg (by omega), if_pos h8]
  · rw [if_pos (by omega), if_neg h8]
theorem write_q0 (v : Value) (b room : Nat) (u : Un) (x : Value) (O : Nat → Prop) (z : Int) (w : World) (h8 : room ≤ 8) (hz : 0 ≤ z ∧ z < 4294967296) (ht : Asked v w b room u x O) :
    Calls Try.prog 12 #[v, .int .i64 0, .int .u32 z] w fun e w' => e = .returned (.tuple #[]) ∧ Left w w' b room (writeR room u 0 z) x O := by
  have hr : I64 0 := ⟨by decide, by decide⟩
  have T := Lib.hid ht
  have Kr := Lib.hid hr
  have Hz := Lib.hid hz
  have H8 := Lib.hid h8
  clear ht hr hz h8
  go_enter Try.func12, Try.ntmps12
  go_wp2_with fail
  refine T.out.mono ?_
  rintro e w1 ⟨rfl, h1, hb1⟩
  have T1 := Lib.hid h1
  have B1 := Lib.hid hb1
  clear h1 hb1
  go_wp2_with fail
  refine (writes_any b w1).mono ?_
  rintro e w2 ⟨⟨g, rfl, hm⟩, hb⟩
  have T2 := Lib.hid (T1.out.keep hb)
  have B2 := Lib.hid (B1.out.trans (Only.of_below hb))
  have lk := look_w hm _ Kr.out
  clear hm hb
  rw [show atR (writeL b) 0 = some (meth 43 b) from rfl] at lk
  simp only [Option.getD_some, Option.isSome_some, meth] at lk
  go_wp2_with fail
  refine (send_any b room u x O z w2 H8.out Hz.out T2.out).mono ?_
  rintro e w3 ⟨rfl, h3⟩
  have R := Lib.hid (show Left w w3 b room (writeR room u 0 z) x O from Left.trans B2.out h3)
  clear h3 lk
  go_wp2_with fail
  first | go_end0 | refine bodyPost_ret (results_none rfl _ _ _) rfl ?_
  exact ⟨rfl, R.out⟩
theorem write_q2 (v : Value) (b room : Nat) (u : Un) (x : Value) (O : Nat → Prop) (z : Int) (w : World) (h8 : room ≤ 8) (hz : 0 ≤ z ∧ z < 4294967296) (ht : Asked v w b room u x O) :
    Calls Try.prog 12 #[v, .int .i64 2, .int .u32 z] w fun e w' => e = .returned (.tuple #[]) ∧ Left w w' b room (writeR room u 2 z) x O := by
  have hr : I64 2 := ⟨by decide, by decide⟩
  have T := Lib.hid ht
  have Kr := Lib.hid hr
  have Hz := Lib.hid hz
  have H8 := Lib.hid h8
  clear ht hr hz h8
  go_enter Try.func12, Try.ntmps12
  go_wp2_with fail
  refine T.out.mono ?_
  rintro e w1 ⟨rfl, h1, hb1⟩
  have T1 := Lib.hid h1
  have B1 := Lib.hid hb1
  clear h1 hb1
  go_wp2_with fail
  refine (writes_any b w1).mono ?_
  rintro e w2 ⟨⟨g, rfl, hm⟩, hb⟩
  have T2 := Lib.hid (T1.out.keep hb)
  have B2 := Lib.hid (B1.out.trans (Only.of_below hb))
  have lk := look_w hm _ Kr.out
  clear hm hb
  rw [show atR (writeL b) 2 = some (meth 44 b) from rfl] at lk
  simp only [Option.getD_some, Option.isSome_some, meth] at lk
  go_wp2_with fail
  refine (setCtrl_any b room u x O z w2 Hz.out T2.out).mono ?_
  rintro e w3 ⟨rfl, h3⟩
  have R := Lib.hid (show Left w w3 b room (writeR room u 2 z) x O from Left.trans B2.out h3)
  clear h3 lk
  go_wp2_with fail
  first | go_end0 | refine bodyPost_ret (results_none rfl _ _ _) rfl ?_
  exact ⟨rfl, R.out⟩
theorem write_q3 (v : Value) (b room : Nat) (u : Un) (x : Value) (O : Nat → Prop) (z : Int) (w : World) (h8 : room ≤ 8) (hz : 0 ≤ z ∧ z < 4294967296) (ht : Asked v w b room u x O) :
    Calls Try.prog 12 #[v, .int .i64 3, .int .u32 z] w fun e w' => e = .returned (.tuple #[]) ∧ Left w w' b room (writeR room u 3 z) x O := by
  have hr : I64 3 := ⟨by decide, by decide⟩
  have T := Lib.hid ht
  have Kr := Lib.hid hr
  have Hz := Lib.hid hz
  have H8 := Lib.hid h8
  clear ht hr hz h8
  go_enter Try.func12, Try.ntmps12
  go_wp2_with fail
  refine T.out.mono ?_
  rintro e w1 ⟨rfl, h1, hb1⟩
  have T1 := Lib.hid h1
  have B1 := Lib.hid hb1
  clear h1 hb1
  go_wp2_with fail
  refine (writes_any b w1).mono ?_
  rintro e w2 ⟨⟨g, rfl, hm⟩, hb⟩
  have T2 := Lib.hid (T1.out.keep hb)
  have B2 := Lib.hid (B1.out.trans (Only.of_below hb))
  have lk := look_w hm _ Kr.out
  clear hm hb
  rw [show atR (writeL b) 3 = some (meth 45 b) from rfl] at lk
  simp only [Option.getD_some, Option.isSome_some, meth] at lk
  go_wp2_with fail
  refine (forgetLost_any b room u x O z w2 Hz.out T2.out).mono ?_
  rintro e w3 ⟨rfl, h3⟩
  have R := Lib.hid (show Left w w3 b room (writeR room u 3 z) x O from Left.trans B2.out h3)
  clear h3 lk
  go_wp2_with fail
  first | go_end0 | refine bodyPost_ret (results_none rfl _ _ _) rfl ?_
  exact ⟨rfl, R.out⟩
theorem writeU_other (u : Un) (k z : Int) (h0 : k ≠ 0) (h2 : k ≠ 2) (h3 : k ≠ 3) : writeU u k z = u := by
  unfold writeU
  rw [if_neg h0, if_neg h2, if_neg h3]
theorem write_qo (v : Value) (b room : Nat) (u : Un) (x : Value) (O : Nat → Prop) (k z : Int) (w : World) (hk : I64 k) (h0 : k ≠ 0) (h1 : k ≠ 2) (h2 : k ≠ 3) (ht : Asked v w b room u x O) :
    Calls Try.prog 12 #[v, .int .i64 k, .int .u32 z] w fun e w' => e = .returned (.tuple #[]) ∧ Left w w' b room u x O := by
  have T := Lib.hid ht
  have Kr := Lib.hid hk
  have H := Lib.hid (And.intro h0 (And.intro h1 h2))
  clear ht hk h0 h1 h2
  go_enter Try.func12, Try.ntmps12
  go_wp2_with fail
  refine T.out.mono ?_
  rintro e w1 ⟨rfl, h1, hb1⟩
  have T1 := Lib.hid h1
  have B1 := Lib.hid hb1
  clear h1 hb1
  go_wp2_with fail
  refine (writes_any b w1).mono ?_
  rintro e w2 ⟨⟨g, rfl, hm⟩, hb⟩
  have T2 := Lib.hid (T1.out.keep hb)
  have B2 := Lib.hid (B1.out.trans (Only.of_below hb))
  have lk := look_w hm _ Kr.out
  clear hm hb
  rw [show atR (writeL b) k = none by unfold writeL atR; rw [if_neg H.out.2.2]; unfold atR; rw [if_neg H.out.2.1]; unfold atR; rw [if_neg H.out.1]; rfl] at lk
  simp only [Option.getD_none, Option.isSome_none] at lk
  have R := Lib.hid (show Left w w2 b room u x O from ⟨O, T2.out, B2.out, fun j hj => .inl hj⟩)
  go_wp2_with fail
  first | go_end0 | refine bodyPost_ret (results_none rfl _ _ _) rfl ?_
  exact ⟨rfl, R.out⟩
theorem write_q (v : Value) (b room : Nat) (u : Un) (x : Value) (O : Nat → Prop) (k z : Int) (w : World) (h8 : room ≤ 8) (hk : I64 k) (hz : 0 ≤ z ∧ z < 4294967296) (ht : Asked v w b room u x O) :
    Calls Try.prog 12 #[v, .int .i64 k, .int .u32 z] w fun e w' => e = .returned (.tuple #[]) ∧ Left w w' b room (writeR room u k z) x O := by
  by_cases h0 : k = 0
  · subst h0; exact write_q0 v b room u x O z w h8 hz ht
  by_cases h2 : k = 2
  · subst h2; exact write_q2 v b room u x O z w h8 hz ht
  by_cases h3 : k = 3
  · subst h3; exact write_q3 v b room u x O z w h8 hz ht
  rw [show writeR room u k z = u by unfold writeR; rw [if_neg h0, writeU_other u k z h0 h2 h3]]
  exact write_qo v b room u x O k z w hk h0 h2 h3 ht
theorem input_q (v : Value) (b room : Nat) (u : Un) (x : Value) (O : Nat → Prop) (y : Int) (w : World) (h8 : room ≤ 8) (hy : 0 ≤ y ∧ y < 256) (ht : Asked v w b room u x O) :
    Calls Try.prog 14 #[v, .int .u8 y] w fun e w' => e = .returned (.bool (inputR room u y).1) ∧ Left w w' b room (inputR room u y).2 x O := by
  have T := Lib.hid ht
  have Hy := Lib.hid hy
  have H8 := Lib.hid h8
  clear ht hy h8
  go_enter Try.func14, Try.ntmps14
  go_wp2_with fail
  refine T.out.mono ?_
  rintro e w1 ⟨rfl, ⟨p, q, A, B, h1, e1⟩, hb1⟩
  have c2 : w1.cell? ⟨b, 2, none⟩ = some p := h1.blk.at 2 rfl
  have B1 := Lib.hid hb1
  have P := Lib.hid (put_came b room u x p q A B O y w1.drew Hy.out H8.out (h1.keep (Below.refl _ _).drew) e1)
  clear h1 hb1 e1
  go_wp2_with fail
  have O1 : Only O w w1.drew := B1.out.trans (Only.of_below (Below.refl w1.heap.size w1).drew)
  go_region_with ((first | (go_at_call 30; refine P.out.mono ?_; rintro e w2 ⟨rfl, hr⟩; have R := Lib.hid (show Left w w2 b room (inputR room u y).2 x O from Left.trans O1 hr))))
  all_goals
    go_wp2_with fail
    go_ret
    exact ⟨rfl, R.out⟩
theorem tick_q (v : Value) (b room : Nat) (u : Un) (x : Value) (O : Nat → Prop) (w : World) (ht : Asked v w b room u x O) :
    Calls Try.prog 16 #[v] w fun e w' => e = .returned (.tuple #[.int .u8 (tickU u).1, .bool (tickU u).2.1]) ∧ Left w w' b room (tickU u).2.2 x O := by
  have T := Lib.hid ht
  clear ht
  by_cases h3 : u.P = 3
  · have e1 : IntKind.i64.wrap (u.P + 1) = 4 := by rw [h3]; rfl
    have et : tickU u = (match u.Goes with | [] => (0, false, { u with P := 0 }) | b :: t => (b, true, { u with P := 0, Goes := t })) := by unfold tickU; rw [if_pos h3]; cases u.Goes <;> rfl
    have H3 := Lib.hid h3
    have Et := Lib.hid et
    clear h3 et
    go_enter Try.func16, Try.ntmps16
    go_wp2_with fail
    refine T.out.mono ?_
    rintro e w1 ⟨rfl, ⟨p, q, A, B, h1, hO⟩, hb1⟩
    have c4 : w1.cell? ⟨b, 4, none⟩ = some (.int .i64 u.P) := h1.blk.at 4 rfl
    have c3 : w1.cell? ⟨b, 3, none⟩ = some q := h1.blk.at 3 rfl
    have f4 := h1.blk.frozen 4
    have B1 := Lib.hid hb1
    have HO := Lib.hid hO
    have U2 := Lib.hid (h1.toCell (u' := { u with P := 0 }) 4 (.int .i64 0) rfl ⟨h1.ok.came, h1.ok.goes, h1.ok.c, by show (0 : Int) ≤ 0 ∧ (0 : Int) < 4; omega⟩ rfl rfl)
    have O2 := Lib.hid (B1.out.trans ((Only.refl O w1).setCell (p := ⟨b, 4, none⟩) ((hO b).2 (.inl rfl)) (.int .i64 0)))
    have d1 : Int.tmod 4 4 = (0 : Int) := rfl
    clear h1 hb1 hO T
    go_wp2_with fail
    refine calls_letter ?_
    intro X hX
    have U3 := Lib.hid (show UB X b room { u with P := 0 } p q x A B by rw [hX.out]; exact U2.out)
    have O3 := Lib.hid (show Only O w X by rw [hX.out]; exact O2.out)
    clear hX c4 c3 f4 U2 O2
    refine (U3.out.goes.take).mono ?_
    rintro e w2 ⟨rfl, h2, ho⟩
    have hp := U3.out.ok
    have hp2 := hp.goes
    have R := Lib.hid (show Left w w2 b room (tickU u).2.2 x O by
      rw [Et.out]
      obtain ⟨Cm, Gs, LI, LO, C, P⟩ := u
      cases Gs with
      | nil => exact Left.trans O3.out ⟨_, ⟨p, q, A, B, U3.out.toGoes (u' := ⟨Cm, [], LI, LO, C, 0⟩) h2 ho (fun j hj => .inl hj) hp rfl rfl rfl rfl, fun j => Iff.rfl⟩, ho.mono (fun j _ k => (HO.out j).2 (.inr (.inr k))), own_goes HO.out (fun j hj => .inl hj)⟩
      | cons y t => exact Left.trans O3.out ⟨_, ⟨p, q, A, B, U3.out.toGoes (u' := ⟨Cm, t, LI, LO, C, 0⟩) h2 ho (fun j hj => .inl hj) ⟨hp.came, ⟨okB_tail hp2.1, by have := hp2.2; simp at this; show t.length ≤ 8; omega⟩, hp.c, hp.p⟩ rfl rfl rfl rfl, fun j => Iff.rfl⟩, ho.mono (fun j _ k => (HO.out j).2 (.inr (.inr k))), own_goes HO.out (fun j hj => .inl hj)⟩)
    have E1 := Lib.hid (show (tickU u).1 = fstB u.Goes by rw [Et.out]; cases u.Goes <;> rfl)
    have E2 := Lib.hid (show (tickU u).2.1 = !u.Goes.isEmpty by rw [Et.out]; cases u.Goes <;> rfl)
    obtain ⟨y1, hy1⟩ : ∃ y1, fstB u.Goes = y1 := ⟨_, rfl⟩
    obtain ⟨y2, hy2⟩ : ∃ y2, (!u.Goes.isEmpty) = y2 := ⟨_, rfl⟩
    have F1 := Lib.hid hy1
    have F2 := Lib.hid hy2
    simp only [hy1, hy2]
    clear h2 ho hp hp2 hy1 hy2
    go_wp2_with fail
    go_ret2
    exact ⟨by rw [E1.out, E2.out, F1.out, F2.out]; rfl, R.out⟩
  · have et : tickU u = (0, false, { u with P := u.P + 1 }) := by unfold tickU; rw [if_neg h3]
    have H3 := Lib.hid h3
    have Et := Lib.hid et
    clear h3 et
    go_enter Try.func16, Try.ntmps16
    go_wp2_with fail
    refine T.out.mono ?_
    rintro e w1 ⟨rfl, ⟨p, q, A, B, h1, hO⟩, hb1⟩
    have hp := h1.ok.p
    have c4 : w1.cell? ⟨b, 4, none⟩ = some (.int .i64 u.P) := h1.blk.at 4 rfl
    have f4 := h1.blk.frozen 4
    obtain ⟨n, hn⟩ : ∃ n, u.P + 1 = n := ⟨_, rfl⟩
    have hr := H3.out
    have hn1 : 1 ≤ n ∧ n ≤ 3 := by omega
    have e1 : IntKind.i64.wrap (u.P + 1) = n := by rw [hn]; exact IntWalk.i64_in _ (by omega)
    have d1 : Int.tmod n 4 = n := Int.tmod_eq_of_lt (by omega) (by omega)
    have d2 : (n != 0) = true := by simp; omega
    have d3 : ¬ n = 0 := by omega
    have d4 : (n == 0) = false := by simp; omega
    have R := Lib.hid (show Left w (w1.setCell ⟨b, 4, none⟩ (.int .i64 n)) b room (tickU u).2.2 x O by
      rw [Et.out]
      exact Left.trans (hb1.trans ((Only.refl O w1).setCell (p := ⟨b, 4, none⟩) ((hO b).2 (.inl rfl)) (.int .i64 n))) ⟨O, ⟨p, q, A, B, h1.toCell (u' := { u with P := u.P + 1 }) 4 (.int .i64 n) (by rw [← hn]; rfl) ⟨h1.ok.came, h1.ok.goes, h1.ok.c, by show 0 ≤ u.P + 1 ∧ u.P + 1 < 4; omega⟩ rfl rfl, hO⟩, Only.refl _ _, fun j hj => .inl hj⟩)
    have E1 := Lib.hid (show (tickU u).1 = 0 by rw [Et.out])
    have E2 := Lib.hid (show (tickU u).2.1 = false by rw [Et.out])
    clear h1 hb1 hO T hn hr hp hn1
    go_wp2_with fail
    first | go_ret2 | skip
    exact ⟨by rw [E1.out, E2.out]; rfl, R.out⟩
theorem line_q1 (v : Value) (room : Nat) (u : Un) (x : Value) (w : World) (hc : u.C = 1) (ht : Calls Try.prog 27 #[v] w fun e w' => ∃ b, e = .returned (me b) ∧ (∃ p q A B, UB w' b room u p q x A B) ∧ Below w.heap.size w w') :
    Calls Try.prog 22 #[v] w fun e w' => e = .returned (.bool (decide (0 < u.Came.length))) ∧ Below w.heap.size w w' := by
  have T := Lib.hid ht
  have d1 : (u.C == 1) = true := by simpa using hc
  obtain ⟨n, hn⟩ : ∃ n, u.Came.length = n := ⟨_, rfl⟩
  have Hn := Lib.hid hn
  rw [hn]
  clear ht hc hn
  go_enter Try.func22, Try.ntmps22
  go_wp2_with fail
  refine T.out.mono ?_
  rintro e w1 ⟨b, rfl, ⟨p, q, A, B, h1⟩, hb1⟩
  have B1 := Lib.hid hb1
  have c1 : w1.cell? ⟨b, 1, none⟩ = some (.int .u32 u.C) := h1.blk.at 1 rfl
  have c2 : w1.cell? ⟨b, 2, none⟩ = some p := h1.blk.at 2 rfl
  have hL := (h1.came).len
  rw [Hn.out] at hL
  have L := Lib.hid hL
  clear h1 hb1 T hL
  go_wp2_with fail
  refine L.out.mono ?_
  rintro e w2 ⟨rfl, hb⟩
  have B2 := Lib.hid (B1.out.trans (hb.mono B1.out.size))
  clear hb
  go_wp2_with fail
  go_ret
  exact ⟨by first | rfl | exact ret_bool (by simp), B2.out⟩
theorem line_q0 (v : Value) (room : Nat) (u : Un) (x : Value) (w : World) (hc : ¬ u.C = 1) (ht : Calls Try.prog 27 #[v] w fun e w' => ∃ b, e = .returned (me b) ∧ (∃ p q A B, UB w' b room u p q x A B) ∧ Below w.heap.size w w') :
    Calls Try.prog 22 #[v] w fun e w' => e = .returned (.bool false) ∧ Below w.heap.size w w' := by
  have T := Lib.hid ht
  have d1 : (u.C == 1) = false := by simpa using hc
  obtain ⟨n, hn⟩ : ∃ n, u.Came.length = n := ⟨_, rfl⟩
  have Hn := Lib.hid hn
  clear ht hc hn
  go_enter Try.func22, Try.ntmps22
  go_wp2_with fail
  refine T.out.mono ?_
  rintro e w1 ⟨b, rfl, ⟨p, q, A, B, h1⟩, hb1⟩
  have B1 := Lib.hid hb1
  have c1 : w1.cell? ⟨b, 1, none⟩ = some (.int .u32 u.C) := h1.blk.at 1 rfl
  have c2 : w1.cell? ⟨b, 2, none⟩ = some p := h1.blk.at 2 rfl
  have hL := (h1.came).len
  rw [Hn.out] at hL
  have L := Lib.hid hL
  clear h1 hb1 T hL
  go_wp2_with fail
  go_ret
  exact ⟨rfl, B1.out⟩
theorem line_q (v : Value) (room : Nat) (u : Un) (x : Value) (w : World) (ht : Calls Try.prog 27 #[v] w fun e w' => ∃ b, e = .returned (me b) ∧ (∃ p q A B, UB w' b room u p q x A B) ∧ Below w.heap.size w w') :
    Calls Try.prog 22 #[v] w fun e w' => e = .returned (.bool (lineU u)) ∧ Below w.heap.size w w' := by
  by_cases hc : u.C = 1
  · rw [show lineU u = decide (0 < u.Came.length) by unfold lineU; simp [hc]]
    exact line_q1 v room u x w hc ht
  · rw [show lineU u = false by unfold lineU; simp [hc]]
    exact line_q0 v room u x w hc ht

/-! ### The contracts -/
theorem New_any (w : World) :
    Calls Try.prog 8 #[] w fun e w' => (∃ b O, e = .returned (.pointer (some ⟨b, 0, none⟩)) ∧ Uar w' b zeroU O ∧ ∀ j, O j → w.heap.size ≤ j) ∧ Below w.heap.size w w' := New_any0 w
theorem Read_any (b : Nat) (u : Un) (O : Nat → Prop) (reg : Int) (w : World) (h1 : I64 reg) (h : Uar w b u O) :
    Calls Try.prog 10 #[.pointer (some ⟨b, 0, none⟩), .int .i64 reg] w fun e w' => e = .returned (.int .u32 (readU u reg).1) ∧ ∃ O', Uar w' b (readU u reg).2 O' ∧ Only O w w' ∧ ∀ j, O' j → O j ∨ w.heap.size ≤ j :=
  read_q (me b) b 8 u (me b) O reg w h1 (Asked.yes h)
theorem Write_any (b : Nat) (u : Un) (O : Nat → Prop) (reg v : Int) (w : World) (h1 : I64 reg) (h2 : 0 ≤ v ∧ v < 4294967296) (h : Uar w b u O) :
    Calls Try.prog 12 #[.pointer (some ⟨b, 0, none⟩), .int .i64 reg, .int .u32 v] w fun e w' => e = .returned (.tuple #[]) ∧ ∃ O', Uar w' b (writeU u reg v) O' ∧ Only O w w' ∧ ∀ j, O' j → O j ∨ w.heap.size ≤ j := by
  have := write_q (me b) b 8 u (me b) O reg v w (by omega) h1 h2 (Asked.yes h)
  rw [writeR_8 h.ok] at this
  exact this
theorem Input_any (b : Nat) (u : Un) (O : Nat → Prop) (x : Int) (w : World) (h2 : 0 ≤ x ∧ x < 256) (h : Uar w b u O) :
    Calls Try.prog 14 #[.pointer (some ⟨b, 0, none⟩), .int .u8 x] w fun e w' => e = .returned (.bool (inputU u x).1) ∧ ∃ O', Uar w' b (inputU u x).2 O' ∧ Only O w w' ∧ ∀ j, O' j → O j ∨ w.heap.size ≤ j := by
  have := input_q (me b) b 8 u (me b) O x w (by omega) h2 (Asked.yes h)
  rw [inputR_8 h.ok] at this
  exact this
theorem Tick_any (b : Nat) (u : Un) (O : Nat → Prop) (w : World) (h : Uar w b u O) :
    Calls Try.prog 16 #[.pointer (some ⟨b, 0, none⟩)] w fun e w' => e = .returned (.tuple #[.int .u8 (tickU u).1, .bool (tickU u).2.1]) ∧ ∃ O', Uar w' b (tickU u).2.2 O' ∧ Only O w w' ∧ ∀ j, O' j → O j ∨ w.heap.size ≤ j :=
  tick_q (me b) b 8 u (me b) O w (Asked.yes h)
theorem Line_any (b : Nat) (u : Un) (O : Nat → Prop) (w : World) (h : Uar w b u O) :
    Calls Try.prog 22 #[.pointer (some ⟨b, 0, none⟩)] w fun e w' => e = .returned (.bool (lineU u)) ∧ Below w.heap.size w w' := by
  obtain ⟨p, q, A, B, h1, hO⟩ := h
  refine line_q (me b) 8 u (me b) w ((uart_yes b w (h1.blk.at 5 rfl)).mono ?_)
  rintro e w' ⟨rfl, rfl⟩
  exact ⟨b, rfl, ⟨p, q, A, B, h1⟩, Below.refl _ _⟩
/-- State: two rows of its own, apart, laid anew. -/
theorem State_any (b : Nat) (u : Un) (O : Nat → Prop) (w : World) (h : Uar w b u O) :
    Calls Try.prog 20 #[.pointer (some ⟨b, 0, none⟩)] w fun e w' => (∃ a1 c1 a2 c2, e = .returned (.agg #[.slice a1 u.Came.length c1, .slice a2 u.Goes.length c2, .bool u.LI, .bool u.LO, .int .u32 u.C, .int .i64 u.P]) ∧ w'.ownsRow w.heap.size 5 1 (.slice a1 u.Came.length c1) u.Came.length (bv u.Came) ∧ w'.ownsRow w.heap.size 5 1 (.slice a2 u.Goes.length c2) u.Goes.length (bv u.Goes) ∧ ∀ j, PB (.slice a1 u.Came.length c1) j → ¬ PB (.slice a2 u.Goes.length c2) j) ∧ Below w.heap.size w w' := by
  obtain ⟨p, q, A, B, h1, hO⟩ := h
  refine State_q (me b) 8 u (me b) w (fun W hb _ => (uart_yes b W ((h1.keep hb).blk.at 5 rfl)).mono ?_)
  rintro e w' ⟨rfl, rfl⟩
  have l1 := h1.blk.lt
  exact ⟨b, p, q, A, B, rfl, h1.keep hb, Below.refl _ _, by omega, fun e => by have := h1.came.lt _ e; omega, fun e => by have := h1.goes.lt _ e; omega⟩
theorem Copy_any (b : Nat) (u : Un) (O : Nat → Prop) (w : World) (h : Uar w b u O) :
    Calls Try.prog 18 #[.pointer (some ⟨b, 0, none⟩)] w fun e w' => (∃ c O', e = .returned (.pointer (some ⟨c, 0, none⟩)) ∧ Uar w' c u O' ∧ ∀ j, O' j → w.heap.size ≤ j) ∧ Below w.heap.size w w' := Copy_any0 b u O w h
/-- What nobody has turns nothing. -/
theorem left_below {w w' : World} {room : Nat} {u : Un} {x : Value} (h : Left w w' w.heap.size room u x (fun j => j = w.heap.size)) : Below w.heap.size w w' := by
  obtain ⟨O', h1, h2, h3⟩ := h
  exact h2.below (Nat.le_refl _) (fun k e => Nat.le_of_eq e.symm)
theorem Read_non (v : Value) (reg : Int) (w : World) (h1 : I64 reg) (h : Non w v) :
    Calls Try.prog 10 #[v, .int .i64 reg] w fun e w' => e = .returned (.int .u32 0) ∧ Below w.heap.size w w' := by
  refine (read_q v w.heap.size 0 zeroU (.pointer none) _ reg w h1 (Asked.non h)).mono ?_
  rintro e w' ⟨rfl, hl⟩
  refine ⟨?_, ?_⟩
  · congr 2
    unfold readU
    by_cases e0 : reg = 0
    · rw [if_pos e0]; rfl
    by_cases e1 : reg = 1
    · rw [if_neg e0, if_pos e1]; rfl
    by_cases e2 : reg = 2
    · rw [if_neg e0, if_neg e1, if_pos e2]; rfl
    · rw [if_neg e0, if_neg e1, if_neg e2]
  · exact left_below hl
theorem Write_non (v : Value) (reg x : Int) (w : World) (h1 : I64 reg) (h2 : 0 ≤ x ∧ x < 4294967296) (h : Non w v) :
    Calls Try.prog 12 #[v, .int .i64 reg, .int .u32 x] w fun e w' => e = .returned (.tuple #[]) ∧ Below w.heap.size w w' := by
  refine (write_q v w.heap.size 0 zeroU (.pointer none) _ reg x w (by omega) h1 h2 (Asked.non h)).mono ?_
  rintro e w' ⟨rfl, hl⟩
  exact ⟨rfl, left_below hl⟩
theorem Input_non (v : Value) (x : Int) (w : World) (h2 : 0 ≤ x ∧ x < 256) (h : Non w v) :
    Calls Try.prog 14 #[v, .int .u8 x] w fun e w' => e = .returned (.bool false) ∧ Below w.heap.size w w' := by
  refine (input_q v w.heap.size 0 zeroU (.pointer none) _ x w (by omega) h2 (Asked.non h)).mono ?_
  rintro e w' ⟨rfl, hl⟩
  exact ⟨rfl, left_below hl⟩
theorem Tick_non (v : Value) (w : World) (h : Non w v) :
    Calls Try.prog 16 #[v] w fun e w' => e = .returned (.tuple #[.int .u8 0, .bool false]) ∧ Below w.heap.size w w' := by
  refine (tick_q v w.heap.size 0 zeroU (.pointer none) _ w (Asked.non h)).mono ?_
  rintro e w' ⟨rfl, hl⟩
  exact ⟨rfl, left_below hl⟩
theorem Line_non (v : Value) (w : World) (h : Non w v) :
    Calls Try.prog 22 #[v] w fun e w' => e = .returned (.bool false) ∧ Below w.heap.size w w' := by
  refine line_q v 0 zeroU (.pointer none) w ((uart_non v w h).mono ?_)
  rintro e w' ⟨rfl, h1, hb⟩
  exact ⟨_, rfl, ⟨_, _, _, _, h1⟩, hb⟩
theorem State_non (v : Value) (w : World) (h : Non w v) :
    Calls Try.prog 20 #[v] w fun e w' => (∃ a1 c1 a2 c2, e = .returned (.agg #[.slice a1 0 c1, .slice a2 0 c2, .bool false, .bool false, .int .u32 0, .int .i64 0])) ∧ Below w.heap.size w w' := by
  refine (State_q v 0 zeroU (.pointer none) w (fun W hb hs => (uart_non v W (h.keep hb)).mono ?_)).mono ?_
  · rintro e w' ⟨rfl, h1, hb1⟩
    exact ⟨_, _, _, _, _, rfl, h1, hb1, by omega, fun e => e, fun e => e⟩
  · rintro e w' ⟨⟨a1, c1, a2, c2, rfl, -⟩, hb⟩
    exact ⟨⟨a1, c1, a2, c2, rfl⟩, hb⟩
theorem Copy_non (v : Value) (w : World) (h : Non w v) :
    Calls Try.prog 18 #[v] w fun e w' => e = .returned (.pointer none) ∧ Below w.heap.size w w' := by
  have A := is_non v w h
  clear h
  go_enter Try.func18, Try.ntmps18
  go_wp2_with fail
  refine A.mono ?_
  rintro e w1 ⟨rfl, rfl⟩
  clear A
  go_wp2_with fail
  go_ret
  exact ⟨rfl, Below.refl _ _⟩
end Go.Proofs.Ythdcealhhmfgcaa.Uart
