/- Package timer: its small functions. TW w b s x: a timer with the words s lies in block b; x is what it says of where it lies. -/
import Derived.Test.YthfckoemldhoaaaNb
import Derived.Laws.BitsAllLaws
import Derived.Deep.RegionHeld3
import Derived.LaidEqlPtr
namespace Go.Proofs.Ythfckoemldhoaaa.Timer
open Go.RowKit Go.Maps Go.ChangeShapes Go.WideShapes Go.ChangeAt Fifo Orow Word
set_option linter.unusedVariables false

def I64 (x : Int) : Prop := -9223372036854775808 ≤ x ∧ x ≤ 9223372036854775807
abbrev cellsT (s : St) (x : Value) : List Value := [.int .u32 s.C, .int .u32 s.L, .int .u32 s.H, .int .u32 s.K, x]
structure TW (w : World) (b : Nat) (s : St) (x : Value) : Prop where
  blk : Blk w b 45 (cellsT s x)
  ok : OkS s
  k8 : s.K < 8
theorem TW.only {S : Nat → Prop} {w w' : World} {b : Nat} {s : St} {x : Value} (h : TW w b s x) (ho : Only S w w') (hn : ¬ S b) : TW w' b s x := ⟨h.blk.only ho hn, h.ok, h.k8⟩
theorem TW.keep {w w' : World} {b : Nat} {s : St} {x : Value} (h : TW w b s x) (hb : Below w.heap.size w w') : TW w' b s x := ⟨h.blk.keep hb, h.ok, h.k8⟩
theorem TW.c0 {w : World} {b : Nat} {s : St} {x : Value} (h : TW w b s x) : w.cell? ⟨b, 0, none⟩ = some (.int .u32 s.C) := h.blk.at 0 rfl
theorem TW.c1 {w : World} {b : Nat} {s : St} {x : Value} (h : TW w b s x) : w.cell? ⟨b, 1, none⟩ = some (.int .u32 s.L) := h.blk.at 1 rfl
theorem TW.c2 {w : World} {b : Nat} {s : St} {x : Value} (h : TW w b s x) : w.cell? ⟨b, 2, none⟩ = some (.int .u32 s.H) := h.blk.at 2 rfl
theorem TW.c3 {w : World} {b : Nat} {s : St} {x : Value} (h : TW w b s x) : w.cell? ⟨b, 3, none⟩ = some (.int .u32 s.K) := h.blk.at 3 rfl
theorem TW.c4 {w : World} {b : Nat} {s : St} {x : Value} (h : TW w b s x) : w.cell? ⟨b, 4, none⟩ = some x := h.blk.at 4 rfl

theorem and_7 {v : Int} (h : 0 ≤ v ∧ v < 4294967296) : bits .and .u32 v 7 = v % 8 := by
  obtain ⟨x, rfl⟩ := Int.eq_ofNat_of_zero_le h.1
  rw [show (7 : Int) = ((7 : Nat) : Int) from rfl, u32_and_nat x 7 (by omega) (by omega), show (7 : Nat) = 2 ^ 3 - 1 from rfl, Nat.and_two_pow_sub_one_eq_mod]
  rfl
def hasV (c bit : Int) : Bool := decide (c / bit % 2 = 1)
theorem controlOf_any (v : Int) (w : World) (h : 0 ≤ v ∧ v < 4294967296) :
    Calls Try.prog 28 #[.int .u32 v] w fun e w' => e = .returned (.int .u32 (v % 8)) ∧ w = w' := by
  have hv := and_7 h
  clear h
  go_enter Try.func28, Try.ntmps28
  go_wp2_with fail
  go_ret
  exact ⟨by first | rfl | rw [hv], rfl⟩
theorem has_core (c bit r : Int) (w : World) (hr : bits .and .u32 c bit = r) :
    Calls Try.prog 34 #[.int .u32 c, .int .u32 bit] w fun e w' => e = .returned (.bool (r != 0)) ∧ w = w' := by
  go_enter Try.func34, Try.ntmps34
  go_wp2_with fail
  go_ret
  exact ⟨rfl, rfl⟩
theorem has_any (c bit : Int) (w : World) (h : 0 ≤ c ∧ c < 8) (hb : bit = 1 ∨ bit = 2 ∨ bit = 4) :
    Calls Try.prog 34 #[.int .u32 c, .int .u32 bit] w fun e w' => e = .returned (.bool (hasV c bit)) ∧ w = w' := by
  have hc : c = 0 ∨ c = 1 ∨ c = 2 ∨ c = 3 ∨ c = 4 ∨ c = 5 ∨ c = 6 ∨ c = 7 := by omega
  have e : (bits .and .u32 c bit != 0) = hasV c bit := by
    rcases hb with rfl | rfl | rfl <;> rcases hc with rfl | rfl | rfl | rfl | rfl | rfl | rfl | rfl <;> decide
  rw [← e]
  exact has_core c bit _ w rfl
theorem and_not_1 {c : Int} (h : 0 ≤ c ∧ c < 8) : bits .andNot .u32 c 1 = c - c % 2 := by
  have hc : c = 0 ∨ c = 1 ∨ c = 2 ∨ c = 3 ∨ c = 4 ∨ c = 5 ∨ c = 6 ∨ c = 7 := by omega
  rcases hc with rfl | rfl | rfl | rfl | rfl | rfl | rfl | rfl <;> decide
theorem countNow_any (b : Nat) (s : St) (x : Value) (w : World) (h : TW w b s x) :
    Calls Try.prog 37 #[.pointer (some ⟨b, 0, none⟩)] w fun e w' => e = .returned (.int .u32 s.C) ∧ w = w' := by
  have c := h.c0
  clear h
  go_enter Try.func37, Try.ntmps37
  go_wp2_with fail
  go_ret
  exact ⟨rfl, rfl⟩
theorem limitNow_any (b : Nat) (s : St) (x : Value) (w : World) (h : TW w b s x) :
    Calls Try.prog 38 #[.pointer (some ⟨b, 0, none⟩)] w fun e w' => e = .returned (.int .u32 s.L) ∧ w = w' := by
  have c := h.c1
  clear h
  go_enter Try.func38, Try.ntmps38
  go_wp2_with fail
  go_ret
  exact ⟨rfl, rfl⟩
theorem ctrlNow_any (b : Nat) (s : St) (x : Value) (w : World) (h : TW w b s x) :
    Calls Try.prog 39 #[.pointer (some ⟨b, 0, none⟩)] w fun e w' => e = .returned (.int .u32 s.K) ∧ w = w' := by
  have c := h.c3
  clear h
  go_enter Try.func39, Try.ntmps39
  go_wp2_with fail
  go_ret
  exact ⟨rfl, rfl⟩
theorem hitsNow_any (b : Nat) (s : St) (x : Value) (w : World) (h : TW w b s x) :
    Calls Try.prog 40 #[.pointer (some ⟨b, 0, none⟩)] w fun e w' => e = .returned (.int .u32 s.H) ∧ w = w' := by
  have c := h.c2
  clear h
  go_enter Try.func40, Try.ntmps40
  go_wp2_with fail
  go_ret
  exact ⟨rfl, rfl⟩
/-- A word is written. -/
theorem tw_set {w : World} {b : Nat} {s s' : St} {x : Value} (h : TW w b s x) (k : Nat) (v : Value) (hc : (cellsT s x).set k v = cellsT s' x) (hk : OkS s') (h8 : s'.K < 8) : TW (w.setCell ⟨b, k, none⟩ v) b s' x ∧ Only (fun j => j = b) w (w.setCell ⟨b, k, none⟩ v) :=
  ⟨⟨by have := h.blk.set k v; rwa [hc] at this, hk, h8⟩, (Only.refl (fun j => j = b) w).setCell (p := ⟨b, k, none⟩) rfl v⟩
theorem setCount_any (b : Nat) (s : St) (x : Value) (v : Int) (w : World) (hv : 0 ≤ v ∧ v < 4294967296) (h : TW w b s x) :
    Calls Try.prog 30 #[.pointer (some ⟨b, 0, none⟩), .int .u32 v] w fun e w' => e = .returned (.tuple #[]) ∧ TW w' b (writeS s 0 v) x ∧ Only (fun j => j = b) w w' := by
  have T := Lib.hid (tw_set h 0 (.int .u32 v) (s' := writeS s 0 v) rfl (okS_write h.ok h.k8 0 v hv).1 (okS_write h.ok h.k8 0 v hv).2)
  have c := h.c0
  have f := h.blk.frozen 0
  clear h hv
  go_enter Try.func30, Try.ntmps30
  go_wp2_with fail
  go_end0
  exact ⟨rfl, T.out⟩
theorem setLimit_any (b : Nat) (s : St) (x : Value) (v : Int) (w : World) (hv : 0 ≤ v ∧ v < 4294967296) (h : TW w b s x) :
    Calls Try.prog 31 #[.pointer (some ⟨b, 0, none⟩), .int .u32 v] w fun e w' => e = .returned (.tuple #[]) ∧ TW w' b (writeS s 1 v) x ∧ Only (fun j => j = b) w w' := by
  have T := Lib.hid (tw_set h 1 (.int .u32 v) (s' := writeS s 1 v) rfl (okS_write h.ok h.k8 1 v hv).1 (okS_write h.ok h.k8 1 v hv).2)
  have c := h.c1
  have f := h.blk.frozen 1
  clear h hv
  go_enter Try.func31, Try.ntmps31
  go_wp2_with fail
  go_end0
  exact ⟨rfl, T.out⟩
theorem setCtrl_any (b : Nat) (s : St) (x : Value) (v : Int) (w : World) (hv : 0 ≤ v ∧ v < 4294967296) (h : TW w b s x) :
    Calls Try.prog 32 #[.pointer (some ⟨b, 0, none⟩), .int .u32 v] w fun e w' => e = .returned (.tuple #[]) ∧ TW w' b (writeS s 2 v) x ∧ Only (fun j => j = b) w w' := by
  have T := Lib.hid (tw_set h 3 (.int .u32 (v % 8)) (s' := writeS s 2 v) rfl (okS_write h.ok h.k8 2 v hv).1 (okS_write h.ok h.k8 2 v hv).2)
  have H := Lib.hid (controlOf_any v w hv)
  have c := h.c3
  have f := h.blk.frozen 3
  clear h hv
  obtain ⟨m, hm⟩ : ∃ m, v % 8 = m := ⟨_, rfl⟩
  rw [hm] at T H
  clear hm
  go_enter Try.func32, Try.ntmps32
  go_wp2_with fail
  refine H.out.mono ?_
  rintro e w1 ⟨rfl, rfl⟩
  go_wp2_with fail
  go_end0
  exact ⟨rfl, T.out⟩
theorem forgetHits_any (b : Nat) (s : St) (x : Value) (v : Int) (w : World) (hv : 0 ≤ v ∧ v < 4294967296) (h : TW w b s x) :
    Calls Try.prog 33 #[.pointer (some ⟨b, 0, none⟩), .int .u32 v] w fun e w' => e = .returned (.tuple #[]) ∧ TW w' b (writeS s 3 v) x ∧ Only (fun j => j = b) w w' := by
  have T := Lib.hid (tw_set h 2 (.int .u32 0) (s' := writeS s 3 v) rfl (okS_write h.ok h.k8 3 v hv).1 (okS_write h.ok h.k8 3 v hv).2)
  have c := h.c2
  have f := h.blk.frozen 2
  clear h hv
  go_enter Try.func33, Try.ntmps33
  go_wp2_with fail
  go_end0
  exact ⟨rfl, T.out⟩
theorem line_any (b : Nat) (s : St) (x : Value) (w : World) (h : TW w b s x) :
    Calls Try.prog 27 #[.pointer (some ⟨b, 0, none⟩)] w fun e w' => e = .returned (.bool (lineS s)) ∧ w = w' := by
  have c3 := h.c3
  have c2 := h.c2
  have hk := h.ok.k
  have h8 := h.k8
  have H := Lib.hid (has_any s.K 2 w ⟨hk.1, h8⟩ (.inr (.inl rfl)))
  have e : lineS s = (hasV s.K 2 && decide (0 < s.H)) := by
    unfold lineS hasV
    rw [Bool.decide_and]
  rw [e]
  clear h hk h8 e
  cases hc : hasV s.K 2
  · rw [hc] at H
    go_enter Try.func27, Try.ntmps27
    go_wp2_with fail
    refine H.out.mono ?_
    rintro e w1 ⟨rfl, rfl⟩
    go_wp2_with fail
    go_ret
    exact ⟨rfl, rfl⟩
  · rw [hc] at H
    go_enter Try.func27, Try.ntmps27
    go_wp2_with fail
    refine H.out.mono ?_
    rintro e w1 ⟨rfl, rfl⟩
    go_wp2_with fail
    go_ret
    exact ⟨by first | rfl | exact ret_bool (by simp), rfl⟩
end Go.Proofs.Ythfckoemldhoaaa.Timer
