/- Put together: Na, Nb, Nx, Ny, Nz, Nw. -/
import Derived.Test.YtknhgfofmkpnfaaGreatBa
import Derived.Test.YtknhgfofmkpnfaaGreatOw
import Derived.Laws.BitsAllLaws
import Derived.Deep.RegionHeld3
import Derived.LaidEqlPtr
import Derived.Test.YtknhgfofmkpnfaaGreatZa
import Derived.BigRegion
import Derived.Deep.RegionWith
/- Plain: a timer's words: what is read, written, what a tick makes. -/
namespace Go.Proofs.YtknhgfofmkpnfaaGreat.Timer
set_option linter.unusedVariables false

structure St where
  C : Int
  L : Int
  K : Int
  H : Int
def zeroS : St := ⟨0, 0, 0, 0⟩
/-- Four words of 32 bits. -/
structure OkS (s : St) : Prop where
  c : 0 ≤ s.C ∧ s.C < 4294967296
  l : 0 ≤ s.L ∧ s.L < 4294967296
  k : 0 ≤ s.K ∧ s.K < 4294967296
  h : 0 ≤ s.H ∧ s.H < 4294967296
def ofS (s : St) : St := { s with K := s.K % 8 }
def readS (s : St) (reg : Int) : Int := if reg = 0 then s.C else if reg = 1 then s.L else if reg = 2 then s.K else if reg = 3 then s.H else 0
def writeS (s : St) (reg v : Int) : St := if reg = 0 then { s with C := v } else if reg = 1 then { s with L := v } else if reg = 2 then { s with K := v % 8 } else if reg = 3 then { s with H := 0 } else s
def incS (s : St) : Int := (s.C + 1) % 4294967296
def tickS (s : St) : St :=
  if s.K % 2 = 0 then s
  else if incS s ≠ s.L then { s with C := incS s }
  else if s.K / 4 = 1 then ⟨0, s.L, s.K, if s.H < 4294967295 then s.H + 1 else s.H⟩
  else ⟨incS s, s.L, s.K - 1, if s.H < 4294967295 then s.H + 1 else s.H⟩
def lineS (s : St) : Bool := decide (s.K / 2 % 2 = 1 ∧ 0 < s.H)
theorem okS_of {s : St} (h : OkS s) : OkS (ofS s) ∧ (ofS s).K < 8 := by
  have h1 := h.k
  have e : 0 ≤ s.K % 8 ∧ s.K % 8 < 8 := by omega
  exact ⟨⟨h.c, h.l, ⟨e.1, by show s.K % 8 < _; omega⟩, h.h⟩, e.2⟩
theorem okS_write {s : St} (h : OkS s) (h8 : s.K < 8) (reg v : Int) (hv : 0 ≤ v ∧ v < 4294967296) : OkS (writeS s reg v) ∧ (writeS s reg v).K < 8 := by
  have e : 0 ≤ v % 8 ∧ v % 8 < 8 := by omega
  unfold writeS
  split
  · exact ⟨⟨hv, h.l, h.k, h.h⟩, h8⟩
  split
  · exact ⟨⟨h.c, hv, h.k, h.h⟩, h8⟩
  split
  · exact ⟨⟨h.c, h.l, ⟨e.1, by show v % 8 < _; omega⟩, h.h⟩, e.2⟩
  split
  · exact ⟨⟨h.c, h.l, h.k, ⟨by show (0 : Int) ≤ 0; omega, by show (0 : Int) < _; omega⟩⟩, h8⟩
  · exact ⟨h, h8⟩
theorem okS_tick {s : St} (h : OkS s) (h8 : s.K < 8) : OkS (tickS s) ∧ (tickS s).K < 8 := by
  have h1 := h.c
  have h2 := h.k
  have h3 := h.h
  have e : 0 ≤ incS s ∧ incS s < 4294967296 := by unfold incS; omega
  have e2 : 0 ≤ (if s.H < 4294967295 then s.H + 1 else s.H) ∧ (if s.H < 4294967295 then s.H + 1 else s.H) < 4294967296 := by split <;> omega
  unfold tickS
  split
  · exact ⟨h, h8⟩
  split
  · exact ⟨⟨e, h.l, h.k, h.h⟩, h8⟩
  split
  · exact ⟨⟨⟨by show (0 : Int) ≤ 0; omega, by show (0 : Int) < _; omega⟩, h.l, h.k, e2⟩, h8⟩
  · exact ⟨⟨e, h.l, ⟨by show 0 ≤ s.K - 1; omega, by show s.K - 1 < _; omega⟩, e2⟩, by show s.K - 1 < 8; omega⟩
theorem read_b {s : St} (h : OkS s) (reg : Int) : 0 ≤ readS s reg ∧ readS s reg < 4294967296 := by
  unfold readS
  split
  · exact h.c
  split
  · exact h.l
  split
  · exact h.k
  split
  · exact h.h
  · omega
end Go.Proofs.YtknhgfofmkpnfaaGreat.Timer
/- The document's timer: Read, Write, Tick, Line. -/
namespace Go.Proofs.YtknhgfofmkpnfaaGreat.Timer
open Go.RowKit Go.Maps Go.ChangeShapes Go.WideShapes Go.ChangeAt Fifo Orow Word
set_option linter.unusedVariables false

abbrev stv (s : St) : Value := .agg #[.int .u32 s.C, .int .u32 s.L, .int .u32 s.K, .int .u32 s.H]
theorem ret_u32 {a b : Int} (h : a = b) : Ending.returned (.int .u32 a) = .returned (.int .u32 b) := by rw [h]
theorem ret_bool {x y : Bool} (h : x = y) : Ending.returned (.bool x) = .returned (.bool y) := by rw [h]
theorem ret_stv {s t : St} (h : s = t) : Ending.returned (stv s) = .returned (stv t) := by rw [h]
theorem reg_cases (reg : Int) : reg = 0 ∨ reg = 1 ∨ reg = 2 ∨ reg = 3 ∨ (¬ reg = 0 ∧ ¬ reg = 1 ∧ ¬ reg = 2 ∧ ¬ reg = 3) := by omega
end Go.Proofs.YtknhgfofmkpnfaaGreat.Timer
/- Package timer: its small functions. TW w b s x: a timer with the words s lies in block b; x is what it says of where it lies. -/
namespace Go.Proofs.YtknhgfofmkpnfaaGreat.Timer
open Go.RowKit Go.Maps Go.ChangeShapes Go.WideShapes Go.ChangeAt Fifo Orow Word
set_option linter.unusedVariables false

def I64 (x : Int) : Prop := -9223372036854775808 ≤ x ∧ x ≤ 9223372036854775807
abbrev cellsT (s : St) (x : Value) : List Value := [.int .u32 s.C, .int .u32 s.L, .int .u32 s.H, .int .u32 s.K, x]
structure TW (w : World) (b : Nat) (s : St) (x : Value) : Prop where
  blk : Blk w b 151 (cellsT s x)
  ok : OkS s
  k8 : s.K < 8
theorem TW.only {S : Nat → Prop} {w w' : World} {b : Nat} {s : St} {x : Value} (h : TW w b s x) (ho : Only S w w') (hn : ¬ S b) : TW w' b s x := ⟨h.blk.only ho hn, h.ok, h.k8⟩
theorem TW.keep {w w' : World} {b : Nat} {s : St} {x : Value} (h : TW w b s x) (hb : Below w.heap.size w w') : TW w' b s x := ⟨h.blk.keep hb, h.ok, h.k8⟩
theorem TW.c0 {w : World} {b : Nat} {s : St} {x : Value} (h : TW w b s x) : w.cell? ⟨b, 0, none⟩ = some (.int .u32 s.C) := h.blk.at 0 rfl
theorem TW.c1 {w : World} {b : Nat} {s : St} {x : Value} (h : TW w b s x) : w.cell? ⟨b, 1, none⟩ = some (.int .u32 s.L) := h.blk.at 1 rfl
theorem TW.c2 {w : World} {b : Nat} {s : St} {x : Value} (h : TW w b s x) : w.cell? ⟨b, 2, none⟩ = some (.int .u32 s.H) := h.blk.at 2 rfl
theorem TW.c3 {w : World} {b : Nat} {s : St} {x : Value} (h : TW w b s x) : w.cell? ⟨b, 3, none⟩ = some (.int .u32 s.K) := h.blk.at 3 rfl
theorem TW.c4 {w : World} {b : Nat} {s : St} {x : Value} (h : TW w b s x) : w.cell? ⟨b, 4, none⟩ = some x := h.blk.at 4 rfl

theorem and_7 {v : Int} (h : 0 ≤ v ∧ v < 4294967296) : bits .and .u32 v 7 = v % 8 := by
  obtain ⟨x, rfl⟩ := Int.eq_ofNat_of_zero_le h.1
  rw [show (7 : Int) = ((7 : Nat) : Int) from rfl, u32_and_nat x 7 (by omega) (by omega), show (7 : Nat) = 2 ^ 3 - 1 from rfl, Nat.and_two_pow_sub_one_eq_mod]
  rfl
def hasV (c bit : Int) : Bool := decide (c / bit % 2 = 1)
theorem controlOf_any (v : Int) (w : World) (h : 0 ≤ v ∧ v < 4294967296) :
    Calls Tryz.prog 98 #[.int .u32 v] w fun e w' => e = .returned (.int .u32 (v % 8)) ∧ w = w' := by
  have hv := and_7 h
  clear h
  go_enter Tryz.func98, Tryz.ntmps98
  go_wp2_with fail
  go_ret
  exact ⟨by first | rfl | rw [hv], rfl⟩
theorem has_core (c bit r : Int) (w : World) (hr : bits .and .u32 c bit = r) :
    Calls Tryz.prog 74 #[.int .u32 c, .int .u32 bit] w fun e w' => e = .returned (.bool (r != 0)) ∧ w = w' := by
  go_enter Tryz.func74, Tryz.ntmps74
  go_wp2_with fail
  go_ret
  exact ⟨rfl, rfl⟩
theorem has_any (c bit : Int) (w : World) (h : 0 ≤ c ∧ c < 8) (hb : bit = 1 ∨ bit = 2 ∨ bit = 4) :
    Calls Tryz.prog 74 #[.int .u32 c, .int .u32 bit] w fun e w' => e = .returned (.bool (hasV c bit)) ∧ w = w' := by
  have hc : c = 0 ∨ c = 1 ∨ c = 2 ∨ c = 3 ∨ c = 4 ∨ c = 5 ∨ c = 6 ∨ c = 7 := by omega
  have e : (bits .and .u32 c bit != 0) = hasV c bit := by
    rcases hb with rfl | rfl | rfl <;> rcases hc with rfl | rfl | rfl | rfl | rfl | rfl | rfl | rfl <;> decide
  rw [← e]
  exact has_core c bit _ w rfl
theorem and_not_1 {c : Int} (h : 0 ≤ c ∧ c < 8) : bits .andNot .u32 c 1 = c - c % 2 := by
  have hc : c = 0 ∨ c = 1 ∨ c = 2 ∨ c = 3 ∨ c = 4 ∨ c = 5 ∨ c = 6 ∨ c = 7 := by omega
  rcases hc with rfl | rfl | rfl | rfl | rfl | rfl | rfl | rfl <;> decide
theorem countNow_any (b : Nat) (s : St) (x : Value) (w : World) (h : TW w b s x) :
    Calls Tryz.prog 304 #[.pointer (some ⟨b, 0, none⟩)] w fun e w' => e = .returned (.int .u32 s.C) ∧ w = w' := by
  have c := h.c0
  clear h
  go_enter Tryz.func304, Tryz.ntmps304
  go_wp2_with fail
  go_ret
  exact ⟨rfl, rfl⟩
theorem limitNow_any (b : Nat) (s : St) (x : Value) (w : World) (h : TW w b s x) :
    Calls Tryz.prog 305 #[.pointer (some ⟨b, 0, none⟩)] w fun e w' => e = .returned (.int .u32 s.L) ∧ w = w' := by
  have c := h.c1
  clear h
  go_enter Tryz.func305, Tryz.ntmps305
  go_wp2_with fail
  go_ret
  exact ⟨rfl, rfl⟩
theorem ctrlNow_any (b : Nat) (s : St) (x : Value) (w : World) (h : TW w b s x) :
    Calls Tryz.prog 306 #[.pointer (some ⟨b, 0, none⟩)] w fun e w' => e = .returned (.int .u32 s.K) ∧ w = w' := by
  have c := h.c3
  clear h
  go_enter Tryz.func306, Tryz.ntmps306
  go_wp2_with fail
  go_ret
  exact ⟨rfl, rfl⟩
theorem hitsNow_any (b : Nat) (s : St) (x : Value) (w : World) (h : TW w b s x) :
    Calls Tryz.prog 307 #[.pointer (some ⟨b, 0, none⟩)] w fun e w' => e = .returned (.int .u32 s.H) ∧ w = w' := by
  have c := h.c2
  clear h
  go_enter Tryz.func307, Tryz.ntmps307
  go_wp2_with fail
  go_ret
  exact ⟨rfl, rfl⟩
/-- A word is written. -/
theorem tw_set {w : World} {b : Nat} {s s' : St} {x : Value} (h : TW w b s x) (k : Nat) (v : Value) (hc : (cellsT s x).set k v = cellsT s' x) (hk : OkS s') (h8 : s'.K < 8) : TW (w.setCell ⟨b, k, none⟩ v) b s' x ∧ Only (fun j => j = b) w (w.setCell ⟨b, k, none⟩ v) :=
  ⟨⟨by have := h.blk.set k v; rwa [hc] at this, hk, h8⟩, (Only.refl (fun j => j = b) w).setCell (p := ⟨b, k, none⟩) rfl v⟩
theorem setCount_any (b : Nat) (s : St) (x : Value) (v : Int) (w : World) (hv : 0 ≤ v ∧ v < 4294967296) (h : TW w b s x) :
    Calls Tryz.prog 308 #[.pointer (some ⟨b, 0, none⟩), .int .u32 v] w fun e w' => e = .returned (.tuple #[]) ∧ TW w' b (writeS s 0 v) x ∧ Only (fun j => j = b) w w' := by
  have T := Lib.hid (tw_set h 0 (.int .u32 v) (s' := writeS s 0 v) rfl (okS_write h.ok h.k8 0 v hv).1 (okS_write h.ok h.k8 0 v hv).2)
  have c := h.c0
  have f := h.blk.frozen 0
  clear h hv
  go_enter Tryz.func308, Tryz.ntmps308
  go_wp2_with fail
  go_end0
  exact ⟨rfl, T.out⟩
theorem setLimit_any (b : Nat) (s : St) (x : Value) (v : Int) (w : World) (hv : 0 ≤ v ∧ v < 4294967296) (h : TW w b s x) :
    Calls Tryz.prog 309 #[.pointer (some ⟨b, 0, none⟩), .int .u32 v] w fun e w' => e = .returned (.tuple #[]) ∧ TW w' b (writeS s 1 v) x ∧ Only (fun j => j = b) w w' := by
  have T := Lib.hid (tw_set h 1 (.int .u32 v) (s' := writeS s 1 v) rfl (okS_write h.ok h.k8 1 v hv).1 (okS_write h.ok h.k8 1 v hv).2)
  have c := h.c1
  have f := h.blk.frozen 1
  clear h hv
  go_enter Tryz.func309, Tryz.ntmps309
  go_wp2_with fail
  go_end0
  exact ⟨rfl, T.out⟩
theorem setCtrl_any (b : Nat) (s : St) (x : Value) (v : Int) (w : World) (hv : 0 ≤ v ∧ v < 4294967296) (h : TW w b s x) :
    Calls Tryz.prog 310 #[.pointer (some ⟨b, 0, none⟩), .int .u32 v] w fun e w' => e = .returned (.tuple #[]) ∧ TW w' b (writeS s 2 v) x ∧ Only (fun j => j = b) w w' := by
  have T := Lib.hid (tw_set h 3 (.int .u32 (v % 8)) (s' := writeS s 2 v) rfl (okS_write h.ok h.k8 2 v hv).1 (okS_write h.ok h.k8 2 v hv).2)
  have H := Lib.hid (controlOf_any v w hv)
  have c := h.c3
  have f := h.blk.frozen 3
  clear h hv
  obtain ⟨m, hm⟩ : ∃ m, v % 8 = m := ⟨_, rfl⟩
  rw [hm] at T H
  clear hm
  go_enter Tryz.func310, Tryz.ntmps310
  go_wp2_with fail
  refine H.out.mono ?_
  rintro e w1 ⟨rfl, rfl⟩
  go_wp2_with fail
  go_end0
  exact ⟨rfl, T.out⟩
theorem forgetHits_any (b : Nat) (s : St) (x : Value) (v : Int) (w : World) (hv : 0 ≤ v ∧ v < 4294967296) (h : TW w b s x) :
    Calls Tryz.prog 311 #[.pointer (some ⟨b, 0, none⟩), .int .u32 v] w fun e w' => e = .returned (.tuple #[]) ∧ TW w' b (writeS s 3 v) x ∧ Only (fun j => j = b) w w' := by
  have T := Lib.hid (tw_set h 2 (.int .u32 0) (s' := writeS s 3 v) rfl (okS_write h.ok h.k8 3 v hv).1 (okS_write h.ok h.k8 3 v hv).2)
  have c := h.c2
  have f := h.blk.frozen 2
  clear h hv
  go_enter Tryz.func311, Tryz.ntmps311
  go_wp2_with fail
  go_end0
  exact ⟨rfl, T.out⟩
theorem line_any (b : Nat) (s : St) (x : Value) (w : World) (h : TW w b s x) :
    Calls Tryz.prog 130 #[.pointer (some ⟨b, 0, none⟩)] w fun e w' => e = .returned (.bool (lineS s)) ∧ w = w' := by
  have c3 := h.c3
  have c2 := h.c2
  have hk := h.ok.k
  have h8 := h.k8
  have H := Lib.hid (has_any s.K 2 w ⟨hk.1, h8⟩ (.inr (.inl rfl)))
  have e : lineS s = (hasV s.K 2 && decide (0 < s.H)) := by
    unfold lineS hasV
    rw [Bool.decide_and]
  rw [e]
  clear h hk h8 e
  cases hc : hasV s.K 2
  · rw [hc] at H
    go_enter Tryz.func130, Tryz.ntmps130
    go_wp2_with fail
    refine H.out.mono ?_
    rintro e w1 ⟨rfl, rfl⟩
    go_wp2_with fail
    go_ret
    exact ⟨rfl, rfl⟩
  · rw [hc] at H
    go_enter Tryz.func130, Tryz.ntmps130
    go_wp2_with fail
    refine H.out.mono ?_
    rintro e w1 ⟨rfl, rfl⟩
    go_wp2_with fail
    go_ret
    exact ⟨by first | rfl | exact ret_bool (by simp), rfl⟩
end Go.Proofs.YtknhgfofmkpnfaaGreat.Timer
/- Package timer: ticks; a timer is laid; which one is asked; its words. -/
namespace Go.Proofs.YtknhgfofmkpnfaaGreat.Timer
open Go.RowKit Go.Maps Go.ChangeShapes Go.WideShapes Go.ChangeAt Fifo Orow Word
set_option linter.unusedVariables false

def moreH (h : Int) : Int := if h < 4294967295 then h + 1 else h
/-- What a hit makes of the words. -/
def hitS (s : St) : St := if s.K / 4 = 1 then ⟨0, s.L, s.K, moreH s.H⟩ else ⟨s.C, s.L, s.K - s.K % 2, moreH s.H⟩
theorem moreH_b {h : Int} (h1 : 0 ≤ h ∧ h < 4294967296) : 0 ≤ moreH h ∧ moreH h < 4294967296 := by unfold moreH; split <;> omega
theorem okS_hit {s : St} (h : OkS s) (h8 : s.K < 8) : OkS (hitS s) ∧ (hitS s).K < 8 := by
  have h2 := h.k
  have h3 := moreH_b h.h
  unfold hitS
  split
  · exact ⟨⟨⟨by show (0 : Int) ≤ 0; omega, by show (0 : Int) < _; omega⟩, h.l, h.k, h3⟩, h8⟩
  · exact ⟨⟨h.c, h.l, ⟨by show 0 ≤ s.K - s.K % 2; omega, by show s.K - s.K % 2 < _; omega⟩, h3⟩, by show s.K - s.K % 2 < 8; omega⟩
theorem hasV_4 {K : Int} (h : 0 ≤ K ∧ K < 8) : hasV K 4 = decide (K / 4 = 1) := by
  unfold hasV
  rw [decide_eq_decide]
  omega
/-- Hits is one more, but not above the greatest: its cell. -/
theorem hit_any (b : Nat) (s : St) (x : Value) (w : World) (h : TW w b s x) :
    Calls Tryz.prog 76 #[.pointer (some ⟨b, 0, none⟩)] w fun e w' => e = .returned (.tuple #[]) ∧ TW w' b (hitS s) x ∧ Only (fun j => j = b) w w' := by
  have hH := h.ok.h
  have hK := h.ok.k
  have h8 := h.k8
  have A := Lib.hid (add_any s.H 1 w hH.1 (by omega) hH.2 (by omega))
  have G := Lib.hid (fun w => has_any s.K 4 w ⟨hK.1, h8⟩ (.inr (.inr rfl)))
  have hm := moreH_b hH
  -- behind the first store (or without it)
  have T1 : ∀ W : World, TW W b ⟨s.C, s.L, s.K, moreH s.H⟩ x → Only (fun j => j = b) w W → s.K / 4 = 1 → TW (W.setCell ⟨b, 0, none⟩ (.int .u32 0)) b (hitS s) x ∧ Only (fun j => j = b) w (W.setCell ⟨b, 0, none⟩ (.int .u32 0)) := fun W hW ho e => by
    have := tw_set hW 0 (.int .u32 0) (s' := hitS s) (by unfold hitS; rw [if_pos e]; rfl) (okS_hit h.ok h.k8).1 (okS_hit h.ok h.k8).2
    exact ⟨this.1, ho.trans this.2⟩
  have T2 : ∀ W : World, TW W b ⟨s.C, s.L, s.K, moreH s.H⟩ x → Only (fun j => j = b) w W → ¬ s.K / 4 = 1 → TW (W.setCell ⟨b, 3, none⟩ (.int .u32 (s.K - s.K % 2))) b (hitS s) x ∧ Only (fun j => j = b) w (W.setCell ⟨b, 3, none⟩ (.int .u32 (s.K - s.K % 2))) := fun W hW ho e => by
    have := tw_set hW 3 (.int .u32 (s.K - s.K % 2)) (s' := hitS s) (by unfold hitS; rw [if_neg e]; rfl) (okS_hit h.ok h.k8).1 (okS_hit h.ok h.k8).2
    exact ⟨this.1, ho.trans this.2⟩
  have HT1 := Lib.hid T1
  have HT2 := Lib.hid T2
  clear T1 T2
  have hnot := and_not_1 ⟨hK.1, h8⟩
  rw [hasV_4 ⟨hK.1, h8⟩] at G
  have S0 := Lib.hid (tw_set h 2 (.int .u32 (moreH s.H)) (s' := ⟨s.C, s.L, s.K, moreH s.H⟩) rfl ⟨h.ok.c, h.ok.l, h.ok.k, hm⟩ h8)
  have c0 := h.c0
  have c2 := h.c2
  have c3 := h.c3
  have f0 := h.blk.frozen 0
  have f2 := h.blk.frozen 2
  have f3 := h.blk.frozen 3
  by_cases hov : s.H < 4294967295
  · have e1 : sumV s.H 1 = s.H + 1 := by unfold sumV; omega
    have e2 : sumB s.H 1 = false := decide_eq_false (by omega)
    have e3 : moreH s.H = s.H + 1 := by unfold moreH; rw [if_pos hov]
    rw [e1, e2] at A
    rw [e3] at HT1 HT2 S0
    obtain ⟨n, hn⟩ : ∃ n, s.H + 1 = n := ⟨_, rfl⟩
    rw [hn] at A HT1 HT2 S0
    clear h hH hm hov e1 e2 e3 hn
    go_enter Tryz.func76, Tryz.ntmps76
    go_wp2_with fail
    refine A.out.mono ?_
    rintro e w1 ⟨rfl, rfl⟩
    go_wp2_with fail
    refine calls_letter ?_
    intro W hW
    have S1 := Lib.hid (show TW W b _ x ∧ Only (fun j => j = b) w W by rw [hW.out]; exact S0.out)
    clear hW c0 c2 c3 f0 f2 f3
    have c0 := S1.out.1.c0
    have c3 := S1.out.1.c3
    have f0 := S1.out.1.blk.frozen 0
    have f3 := S1.out.1.blk.frozen 3
    refine (G.out _).mono ?_
    rintro e w1 ⟨rfl, rfl⟩
    by_cases h4 : s.K / 4 = 1
    · have d4 : decide (s.K / 4 = 1) = true := decide_eq_true h4
      have R := Lib.hid (HT1.out _ S1.out.1 S1.out.2 h4)
      clear h4
      go_wp2_with fail
      refine bodyPost_ret (results_none rfl _ _ _) rfl ?_
      exact ⟨rfl, R.out⟩
    · have d4 : decide (s.K / 4 = 1) = false := decide_eq_false h4
      have R := Lib.hid (HT2.out _ S1.out.1 S1.out.2 h4)
      clear h4 hK h8
      obtain ⟨m, hm⟩ : ∃ m, s.K - s.K % 2 = m := ⟨_, rfl⟩
      rw [hm] at R hnot
      clear hm
      go_wp2_with fail
      go_end0
      exact ⟨rfl, by first | exact R.out | (rw [hnot]; exact R.out)⟩
  · have e2 : sumB s.H 1 = true := decide_eq_true (by omega)
    have e3 : moreH s.H = s.H := by unfold moreH; rw [if_neg hov]
    rw [e2] at A
    rw [e3] at HT1 HT2 S0
    obtain ⟨n, hn⟩ : ∃ n, sumV s.H 1 = n := ⟨_, rfl⟩
    rw [hn] at A
    have S1 := Lib.hid h
    clear h hH hm hov e2 e3 hn S0
    go_enter Tryz.func76, Tryz.ntmps76
    go_wp2_with fail
    refine A.out.mono ?_
    rintro e w1 ⟨rfl, rfl⟩
    go_wp2_with fail
    refine (G.out _).mono ?_
    rintro e w1 ⟨rfl, rfl⟩
    by_cases h4 : s.K / 4 = 1
    · have d4 : decide (s.K / 4 = 1) = true := decide_eq_true h4
      have R := Lib.hid (HT1.out _ S1.out (Only.refl _ _) h4)
      clear h4
      go_wp2_with fail
      refine bodyPost_ret (results_none rfl _ _ _) rfl ?_
      exact ⟨rfl, R.out⟩
    · have d4 : decide (s.K / 4 = 1) = false := decide_eq_false h4
      have R := Lib.hid (HT2.out _ S1.out (Only.refl _ _) h4)
      clear h4 hK h8
      obtain ⟨m, hm⟩ : ∃ m, s.K - s.K % 2 = m := ⟨_, rfl⟩
      rw [hm] at R hnot
      clear hm
      go_wp2_with fail
      go_end0
      exact ⟨rfl, by first | exact R.out | (rw [hnot]; exact R.out)⟩
theorem tickS_off {s : St} (e : s.K % 2 = 0) : tickS s = s := by unfold tickS; rw [if_pos e]
theorem tickS_no {s : St} (e : ¬ s.K % 2 = 0) (n : incS s ≠ s.L) : tickS s = { s with C := incS s } := by unfold tickS; rw [if_neg e, if_pos n]
theorem tickS_yes {s : St} (e : ¬ s.K % 2 = 0) (n : incS s = s.L) : tickS s = hitS { s with C := incS s } := by
  have e1 : s.K % 2 = 1 := by omega
  unfold tickS hitS moreH
  rw [if_neg e, if_neg (fun h => h n)]
  simp only [e1]
theorem tick_any (b : Nat) (s : St) (x : Value) (w : World) (h : TW w b s x) :
    Calls Tryz.prog 53 #[.pointer (some ⟨b, 0, none⟩)] w fun e w' => e = .returned (.tuple #[]) ∧ TW w' b (tickS s) x ∧ Only (fun j => j = b) w w' := by
  have hC := h.ok.c
  have hK := h.ok.k
  have h8 := h.k8
  have A := Lib.hid (add_any s.C 1 w hC.1 (by omega) hC.2 (by omega))
  have G := Lib.hid (has_any s.K 1 w ⟨hK.1, h8⟩ (.inl rfl))
  have c0 := h.c0
  have c3 := h.c3
  have f0 := h.blk.frozen 0
  have H := Lib.hid h
  by_cases e : s.K % 2 = 0
  · have d : hasV s.K 1 = false := decide_eq_false (by omega)
    rw [tickS_off e]
    rw [d] at G
    clear h hC hK h8 e d
    go_enter Tryz.func53, Tryz.ntmps53
    go_wp2_with fail
    refine G.out.mono ?_
    rintro e w1 ⟨rfl, rfl⟩
    go_wp2_with fail
    refine bodyPost_ret (results_none rfl _ _ _) rfl ?_
    exact ⟨rfl, H.out, Only.refl _ _⟩
  · have d : hasV s.K 1 = true := decide_eq_true (by omega)
    rw [d] at G
    have ei : sumV s.C 1 = incS s := rfl
    rw [ei] at A
    have hi : 0 ≤ incS s ∧ incS s < 4294967296 := by unfold incS; omega
    have S0 := Lib.hid (tw_set h 0 (.int .u32 (incS s)) (s' := { s with C := incS s }) rfl ⟨hi, h.ok.l, h.ok.k, h.ok.h⟩ h8)
    have E1 := Lib.hid (fun n => tickS_no e n)
    have E2 := Lib.hid (fun n => tickS_yes e n)
    obtain ⟨n, hn⟩ : ∃ n, incS s = n := ⟨_, rfl⟩
    rw [hn] at A S0 E1 E2
    clear h hC hK h8 e d ei hi hn
    go_enter Tryz.func53, Tryz.ntmps53
    go_wp2_with fail
    refine G.out.mono ?_
    rintro e w1 ⟨rfl, rfl⟩
    go_wp2_with fail
    refine A.out.mono ?_
    rintro e w1 ⟨rfl, rfl⟩
    go_wp2_with fail
    refine code_letter ?_
    intro W hW
    have S1 := Lib.hid (show TW W b _ x ∧ Only (fun j => j = b) w W by rw [hW.out]; exact S0.out)
    clear hW c0 c3 f0
    have c0 := S1.out.1.c0
    have c1 := S1.out.1.c1
    by_cases hl : n = s.L
    · have d : (n == s.L) = true := beq_iff_eq.2 hl
      have HL := Lib.hid (E2.out hl)
      clear hl
      have W1 := Lib.hid (show TW W.drew b _ x from S1.out.1.keep (Below.refl _ _).drew)
      have K := Lib.hid (hit_any b _ x W.drew W1.out)
      have HO := Lib.hid (show Only (fun j => j = b) w W.drew from S1.out.2.trans (Only.of_below (Below.refl _ _).drew))
      go_region
      go_wp2_with fail
      refine K.out.mono ?_
      rintro e w2 ⟨rfl, h1, h2⟩
      have R := Lib.hid (show TW w2 b (tickS s) x ∧ Only (fun j => j = b) w w2 from ⟨by rw [HL.out]; exact h1, HO.out.trans h2⟩)
      clear h1 h2
      go_wp2_with fail
      go_end0
      exact ⟨rfl, R.out⟩
    · have d : (n == s.L) = false := by simpa using hl
      have HL := Lib.hid (E1.out hl)
      clear hl
      go_region
      go_wp2_with fail
      go_end0
      exact ⟨rfl, by rw [HL.out]; exact S1.out.1.keep (Below.refl _ _).drew, S1.out.2.trans (Only.of_below (Below.refl _ _).drew)⟩

theorem timer_info : (Tryz.prog.info? 151).isSome = true := by kernel_rfl
theorem eq_own (a : Addr) (w : World) : (binOp .eql 64 (.pointer (some a)) (.pointer (some a))).run Tryz.prog w = .ok (.bool true) w := by
  obtain ⟨j, hj⟩ := Option.isSome_iff_exists.1 timer_info
  exact run_eql_ptr_same w a Tryz.underlying64 hj
theorem eq_nil (a : Addr) (w : World) : (binOp .eql 64 (.pointer none) (.pointer (some a))).run Tryz.prog w = .ok (.bool false) w := by
  have h : ∀ d : Nat, (Op.equalIn (d + 1) 64 (.pointer none) (.pointer (some a))).run Tryz.prog w = .ok false w := fun d => by
    simp [Op.equalIn, run_underlying Tryz.underlying64]
  simp only [binOp]
  simp [Op.equal, Op.maxDepth, h 9999]
theorem is_yes (b : Nat) (w : World) (h : w.cell? ⟨b, 4, none⟩ = some (.pointer (some ⟨b, 0, none⟩))) :
    Calls Tryz.prog 73 #[.pointer (some ⟨b, 0, none⟩)] w fun e w' => e = .returned (.bool true) ∧ w = w' := by
  have he := eq_own ⟨b, 0, none⟩ w
  go_enter Tryz.func73, Tryz.ntmps73
  go_wp2_with fail
  go_ret
  exact ⟨rfl, rfl⟩
/-- No timer: none at all, or one that was not answered. -/
def zeroCells : Array Value := (cellsT zeroS (.pointer none)).toArray
def ZeroAt (w : World) (b : Nat) : Prop := TW w b zeroS (.pointer none)
theorem okS_zero : OkS zeroS := ⟨by show (0 : Int) ≤ 0 ∧ (0 : Int) < _; omega, by show (0 : Int) ≤ 0 ∧ (0 : Int) < _; omega, by show (0 : Int) ≤ 0 ∧ (0 : Int) < _; omega, by show (0 : Int) ≤ 0 ∧ (0 : Int) < _; omega⟩
theorem zero_new (w : World) : ZeroAt (w.alloc (.cells zeroCells 151)) w.heap.size := ⟨Blk.new w _ _, okS_zero, by show (0 : Int) < 8; omega⟩
theorem ZeroAt.keep {w w' : World} {b : Nat} (h : ZeroAt w b) (hb : Below w.heap.size w w') : ZeroAt w' b := TW.keep h hb
def Non (w : World) (v : Value) : Prop := v = .pointer none ∨ ∃ b, v = .pointer (some ⟨b, 0, none⟩) ∧ ZeroAt w b
theorem Non.keep {w w' : World} {v : Value} (h : Non w v) (hb : Below w.heap.size w w') : Non w' v := by
  rcases h with rfl | ⟨b, rfl, h⟩
  · exact .inl rfl
  · exact .inr ⟨b, rfl, h.keep hb⟩
theorem is_non (v : Value) (w : World) (h : Non w v) :
    Calls Tryz.prog 73 #[v] w fun e w' => e = .returned (.bool false) ∧ w = w' := by
  rcases h with rfl | ⟨b, rfl, h⟩
  · go_enter Tryz.func73, Tryz.ntmps73
    go_wp2_with fail
    go_ret
    exact ⟨rfl, rfl⟩
  · have c1 := TW.c4 h
    have he := eq_nil ⟨b, 0, none⟩ w
    clear h
    go_enter Tryz.func73, Tryz.ntmps73
    go_wp2_with fail
    go_ret
    exact ⟨rfl, rfl⟩
theorem timer_yes (b : Nat) (w : World) (h : w.cell? ⟨b, 4, none⟩ = some (.pointer (some ⟨b, 0, none⟩))) :
    Calls Tryz.prog 52 #[.pointer (some ⟨b, 0, none⟩)] w fun e w' => e = .returned (.pointer (some ⟨b, 0, none⟩)) ∧ w = w' := by
  have H := Lib.hid (is_yes b w h)
  clear h
  go_enter Tryz.func52, Tryz.ntmps52
  go_wp2_with fail
  refine H.out.mono ?_
  rintro e w1 ⟨rfl, rfl⟩
  go_wp2_with fail
  go_ret
  exact ⟨rfl, rfl⟩
/-- A fresh one that nobody has: its block is new. -/
theorem timer_non (v : Value) (w : World) (h : Non w v) :
    Calls Tryz.prog 52 #[v] w fun e w' => (∃ b, e = .returned (.pointer (some ⟨b, 0, none⟩)) ∧ ZeroAt w' b ∧ w.heap.size ≤ b) ∧ Below w.heap.size w w' := by
  have H := Lib.hid (is_non v w h)
  clear h
  go_enter Tryz.func52, Tryz.ntmps52
  go_wp2_with fail
  refine H.out.mono ?_
  rintro e w1 ⟨rfl, rfl⟩
  go_wp2_with fail
  go_ret
  exact ⟨⟨_, rfl, zero_new w, Nat.le_refl _⟩, (Below.refl _ _).alloc (Nat.le_refl _) _⟩
end Go.Proofs.YtknhgfofmkpnfaaGreat.Timer
/- Package timer: words made and told; Of, New; the two maps of method values. -/
namespace Go.Proofs.YtknhgfofmkpnfaaGreat.Timer
open Go.RowKit Go.Maps Go.ChangeShapes Go.WideShapes Go.ChangeAt Fifo Orow Word Fmap
set_option linter.unusedVariables false

set_option maxHeartbeats 1000000 in
theorem state_any (b : Nat) (s : St) (x : Value) (w : World) (h : TW w b s x) :
    Calls Tryz.prog 129 #[.pointer (some ⟨b, 0, none⟩)] w fun e w' => e = .returned (stv s) ∧ Below w.heap.size w w' := by
  have H := Lib.hid h
  have hlt := h.blk.lt
  clear h
  go_enter Tryz.func129, Tryz.ntmps129
  go_wp2_with fail
  refine code_letter ?_
  intro W hW
  have B := Lib.hid (show Below w.heap.size w W by rw [hW.out]; exact (Below.refl _ _).alloc (Nat.le_refl _) _)
  have T := Lib.hid (H.out.keep B.out)
  have Z := Lib.hid (show Blk W w.heap.size 122 [.int .u32 0, .int .u32 0, .int .u32 0, .int .u32 0] by rw [hW.out]; exact Blk.new w _ _)
  clear hW
  have c0 := T.out.c0
  have c1 := T.out.c1
  have c2 := T.out.c2
  have c3 := T.out.c3
  have z0 := Z.out.at 0 rfl
  have z1 := Z.out.at 1 rfl
  have z2 := Z.out.at 2 rfl
  have z3 := Z.out.at 3 rfl
  have f0 := Z.out.frozen 0
  have f1 := Z.out.frozen 1
  have f2 := Z.out.frozen 2
  have f3 := Z.out.frozen 3
  obtain ⟨g, hg⟩ : ∃ g, w.heap.size = g := ⟨_, rfl⟩
  rw [hg] at B Z hlt z0 z1 z2 z3 f0 f1 f2 f3
  rw [hg]
  go_region
  refine exit_letter ?_
  intro X hX
  have R := Lib.hid (show Blk X g 122 [.int .u32 s.C, .int .u32 s.L, .int .u32 s.K, .int .u32 s.H] by rw [hX.out]; exact ((((Z.out.set 0 _).set 1 _).set 2 _).set 3 _))
  have BX := Lib.hid (show Below g w X by
    rw [hX.out]
    exact (((((B.out.setCell (Nat.le_refl _) _).setCell (Nat.le_refl _) _).setCell (Nat.le_refl _) _).setCell (Nat.le_refl _) _).drew))
  clear hX c0 c1 c2 c3 z0 z1 z2 z3 f0 f1 f2 f3
  have r0 := R.out.at 0 rfl
  have r1 := R.out.at 1 rfl
  have r2 := R.out.at 2 rfl
  have r3 := R.out.at 3 rfl
  go_wp2_with fail
  refine bodyPost_ret (v := stv s) ?_ rfl ⟨rfl, by rw [hg]; exact BX.out⟩
  simp [results, Tryz.results129, go_sem, stv, r0, r1, r2, r3]
set_option maxRecDepth 100000 in
theorem wordsOf_any (s : St) (w : World) (h : OkS s) :
    Calls Tryz.prog 84 #[stv s] w fun e w' => e = .returned (.agg #[.int .u32 s.C, .int .u32 s.L, .int .u32 s.H, .int .u32 (s.K % 8)]) ∧ Below w.heap.size w w' := by
  have G := Lib.hid (fun w => controlOf_any s.K w h.k)
  clear h
  obtain ⟨m, hm⟩ : ∃ m, s.K % 8 = m := ⟨_, rfl⟩
  rw [hm] at G
  rw [hm]
  clear hm
  go_enter Tryz.func84, Tryz.ntmps84
  go_wp2_with fail
  refine code_letter ?_
  intro W hW
  have B := Lib.hid (show Below w.heap.size w W by rw [hW.out]; exact ((Below.refl _ _).alloc (Nat.le_refl _) _).alloc (by simp) _)
  have S := Lib.hid (show Blk W w.heap.size 122 [.int .u32 s.C, .int .u32 s.L, .int .u32 s.K, .int .u32 s.H] by rw [hW.out]; exact (Blk.new w _ _).alloc _)
  have Z := Lib.hid (show Blk W (w.heap.size + 1) 149 [.int .u32 0, .int .u32 0, .int .u32 0, .int .u32 0] by
    rw [hW.out]
    have e : ∀ X : World, X.heap.size = w.heap.size + 1 → Blk (X.alloc (.cells #[.int .u32 0, .int .u32 0, .int .u32 0, .int .u32 0] 149)) (w.heap.size + 1) 149 [.int .u32 0, .int .u32 0, .int .u32 0, .int .u32 0] := fun X h => by rw [← h]; exact Blk.new X _ _
    exact e _ (by simp))
  clear hW
  obtain ⟨g, hg⟩ : ∃ g, w.heap.size = g := ⟨_, rfl⟩
  rw [hg] at B Z S
  rw [hg]
  have L : ∀ k v, ([.int .u32 s.C, .int .u32 s.L, .int .u32 s.K, .int .u32 s.H] : List Value)[k]? = some v → ∀ w', Blk w' g 122 [.int .u32 s.C, .int .u32 s.L, .int .u32 s.K, .int .u32 s.H] → w'.cell? ⟨g, k, none⟩ = some v := fun k v hv w' h => h.at k hv
  have c0 := L 0 _ rfl
  have c1 := L 1 _ rfl
  have c2 := L 2 _ rfl
  have c3 := L 3 _ rfl
  clear L
  have z0 := Z.out.at 0 rfl
  have z1 := Z.out.at 1 rfl
  have z2 := Z.out.at 2 rfl
  have z3 := Z.out.at 3 rfl
  have f0 := Z.out.frozen 0
  have f1 := Z.out.frozen 1
  have f2 := Z.out.frozen 2
  have f3 := Z.out.frozen 3
  have ZZ := Z.out
  clear z0 z1 z2 z3 f0 f1 f2 f3
  refine wp_region_held_drew (S := fun w' => Blk w' g 122 [.int .u32 s.C, .int .u32 s.L, .int .u32 s.K, .int .u32 s.H]) (by kernel_rfl) S.out (fun hHeld => ?_)
  refine wpAnyH_take (i := 0) (v := ?_) rfl (by kernel_rfl) (by kernel_rfl) (by kernel_rfl) (fun _ _ _ h => h) (Or.inl ⟨by rfl, ?_⟩) (by assumption) ?_
  rotate_left
  · (intro w hSw; (try dsimp only at hSw); go_simp; try (with_reducible rfl))
  try simp only [Act.put]
  refine wpAnyH_take (i := 1) (v := ?_) rfl (by kernel_rfl) (by kernel_rfl) (by kernel_rfl) (fun _ _ _ h => h) (Or.inl ⟨by rfl, ?_⟩) (by assumption) ?_
  rotate_left
  · (intro w hSw; (try dsimp only at hSw); go_simp; try (with_reducible rfl))
  try simp only [Act.put]
  refine wpAnyH_take (i := 2) (v := ?_) rfl (by kernel_rfl) (by kernel_rfl) (by kernel_rfl) (fun _ _ _ h => h) (Or.inl ⟨by rfl, ?_⟩) (by assumption) ?_
  rotate_left
  · (intro w hSw; (try dsimp only at hSw); go_simp; try (with_reducible rfl))
  try simp only [Act.put]
  refine wpAnyH_take (i := 3) (v := ?_) rfl (by kernel_rfl) (by kernel_rfl) (by kernel_rfl) (fun _ _ _ h => h) (Or.inl ⟨by rfl, ?_⟩) (by assumption) ?_
  rotate_left
  · (intro w hSw; (try dsimp only at hSw); go_simp; try (with_reducible rfl))
  try simp only [Act.put]
  refine wpAnyH_take (i := 4) (v := ?_) rfl (by kernel_rfl) (by kernel_rfl) (by kernel_rfl) (fun _ _ _ h => h) (Or.inl ⟨by rfl, ?_⟩) (by assumption) ?_
  rotate_left
  · (intro w hSw; (try dsimp only at hSw); go_simp; try (with_reducible rfl))
  try simp only [Act.put]
  refine wpAnyH_take (i := 5) (v := ?_) rfl (by kernel_rfl) (by kernel_rfl) (by kernel_rfl) (fun _ _ _ h => h) (Or.inl ⟨by rfl, ?_⟩) (by assumption) ?_
  rotate_left
  · (intro w hSw; (try dsimp only at hSw); go_simp; try (with_reducible rfl))
  try simp only [Act.put]
  refine wpAnyH_take (i := 6) (v := ?_) rfl (by kernel_rfl) (by kernel_rfl) (by kernel_rfl) (fun _ _ _ h => h) (Or.inl ⟨by rfl, ?_⟩) (by assumption) ?_
  rotate_left
  · (intro w hSw; (try dsimp only at hSw); go_simp; try (with_reducible rfl))
  try simp only [Act.put]
  refine wpAnyH_take (i := 7) (v := ?_) rfl (by kernel_rfl) (by kernel_rfl) (by kernel_rfl) (fun _ _ _ h => h) (Or.inl ⟨by rfl, ?_⟩) (by assumption) ?_
  rotate_left
  · (intro w hSw; (try dsimp only at hSw); go_simp; try (with_reducible rfl))
  try simp only [Act.put]
  refine wpAnyH_ready (rs := [8]) (by kernel_rfl) (by simp) ?_
  refine AllReadyH.cons rfl (fun K0 hK => ?_) AllReadyH.nil
  go_simp
  refine (G.out _).mono ?_
  rintro e w5 ⟨rfl, rfl⟩
  refine hK.out _ _ S.out (fun hHeld => ?_)
  clear hK
  try simp only [Act.put]
  refine wpAnyH_take (i := 9) (v := ?_) rfl (by kernel_rfl) (by kernel_rfl) (by kernel_rfl) (fun _ _ _ h => h) (Or.inl ⟨by rfl, ?_⟩) (by assumption) ?_
  rotate_left
  · (intro w hSw; (try dsimp only at hSw); go_simp; try (with_reducible rfl))
  try simp only [Act.put]
  refine wpAnyH_ready (rs := [10]) (by kernel_rfl) (by simp) ?_
  refine AllReadyH.cons rfl (fun K1 hK => ?_) AllReadyH.nil
  rw [if_pos (by rfl)]
  refine oper_store _ _ _ rfl (g + 1) 0 [.int .u32 s.C, .int .u32 s.L, .int .u32 s.H, .int .u32 m] rfl rfl 149 _ ZZ (by kernel_rfl) (by simp) (by simp [Value.oneCell']) ?_
  intro Y hY hoY
  have hon : Blk Y g 122 [.int .u32 s.C, .int .u32 s.L, .int .u32 s.K, .int .u32 s.H] := Blk.only (w := W.drew) (S := fun j => j = g + 1) S.out hoY (by show ¬ g = g + 1; omega)
  have R := Lib.hid (show Blk Y (g + 1) 149 [.int .u32 s.C, .int .u32 s.L, .int .u32 s.H, .int .u32 m] from hY)
  have O := Lib.hid (show Below g w Y from B.out.trans ((Only.below (Only.far (Only.of_below (Below.refl W.heap.size W).drew) hoY (fun i _ e => e)) (Nat.le_of_lt S.out.lt) (fun k e => by have : k = g + 1 := e; omega))))
  refine hK.out _ _ hon (fun hHeld => ?_)
  clear hK hY hoY hon
  simp only [Act.put, List.getElem_toArray, List.getElem_cons_succ, List.getElem_cons_zero]
  refine wpAnyH_done (by kernel_rfl) ?_ _
  have r0 := R.out.at 0 rfl
  have r1 := R.out.at 1 rfl
  have r2 := R.out.at 2 rfl
  have r3 := R.out.at 3 rfl
  go_wp2_with fail
  refine bodyPost_ret (v := .agg #[.int .u32 s.C, .int .u32 s.L, .int .u32 s.H, .int .u32 m]) ?_ rfl ⟨rfl, by rw [hg]; exact O.out⟩
  simp [results, Tryz.results84, go_sem, r0, r1, r2, r3]
set_option maxRecDepth 100000 in
theorem Of_any0 (s : St) (w : World) (h : OkS s) :
    Calls Tryz.prog 62 #[stv s] w fun e w' => (∃ b, e = .returned (.pointer (some ⟨b, 0, none⟩)) ∧ TW w' b (ofS s) (.pointer (some ⟨b, 0, none⟩)) ∧ w.heap.size ≤ b) ∧ Below w.heap.size w w' := by
  have G := Lib.hid (fun w => wordsOf_any s w h)
  have H := Lib.hid (okS_of h)
  clear h
  go_enter Tryz.func62, Tryz.ntmps62
  go_wp2_with fail
  refine (G.out _).mono ?_
  rintro e w1 ⟨rfl, hb⟩
  have B1 := Lib.hid (show Below w.heap.size w w1 from ((Below.refl _ _).alloc (Nat.le_refl _) _).trans (hb.mono (by simp)))
  have hs := B1.out.size
  clear hb
  go_wp2_with fail
  go_ret
  exact ⟨⟨_, rfl, ⟨Blk.new _ _ _, H.out.1, H.out.2⟩, hs⟩, B1.out.alloc hs _⟩
theorem New_any0 (w : World) :
    Calls Tryz.prog 37 #[] w fun e w' => (∃ b, e = .returned (.pointer (some ⟨b, 0, none⟩)) ∧ TW w' b zeroS (.pointer (some ⟨b, 0, none⟩)) ∧ w.heap.size ≤ b) ∧ Below w.heap.size w w' := by
  have G := Lib.hid (Of_any0 zeroS w okS_zero)
  rw [show ofS zeroS = zeroS from rfl] at G
  go_enter Tryz.func37, Tryz.ntmps37
  go_wp2_with fail
  refine G.out.mono ?_
  rintro e w1 ⟨⟨b, rfl, h1, h2⟩, hb⟩
  have R := Lib.hid (And.intro h1 (And.intro h2 hb))
  clear h1 h2 hb
  go_wp2_with fail
  go_ret
  exact ⟨⟨b, rfl, R.out.1, R.out.2.1⟩, R.out.2.2⟩

theorem keyK : Keyed Tryz.prog 3 := int_keyed Tryz.underlying3
theorem key_mk (k : Int) (hk : I64 k) : keyOf Tryz.prog 3 (.int .i64 k) = some (.int .i64 k) := keyOf_int_mk Tryz.underlying3 (WalkArith.wf_i64 ⟨hk.1, hk.2⟩)
def meth (f : Nat) (b : Nat) : Value := .func (.func f) #[.pointer (some ⟨b, 0, none⟩)] #[]
def readL (b : Nat) : List (Int × Value) := [(3, meth 307 b), (2, meth 306 b), (1, meth 305 b), (0, meth 304 b)]
def writeL (b : Nat) : List (Int × Value) := [(3, meth 311 b), (2, meth 310 b), (1, meth 309 b), (0, meth 308 b)]
theorem reads_any (b : Nat) (w : World) :
    Calls Tryz.prog 302 #[.pointer (some ⟨b, 0, none⟩)] w fun e w' => (∃ g, e = .returned (.map (some g)) ∧ FM Tryz.prog 3 .i64 w' g (readL b)) ∧ Below w.heap.size w w' := by
  have hmm := @run_makeMap Tryz.prog
  have hmf : ∀ w f r, (Instr.makeFunc (.func f) r #[]).run Tryz.prog w = .ok (.func (.func f) r #[]) w := fun w f r => rfl
  go_enter Tryz.func302, Tryz.ntmps302
  go_wp2_with (with_reducible refine at_insert _ _ _ _ rfl ?_)
  refine Lib.hid ?_
  refine list_letter ?_
  intro W hW
  have B0 := Lib.hid (show Below w.heap.size w W by rw [hW.out]; exact (Below.refl w.heap.size w).alloc (Nat.le_refl _) _)
  have H0 := Lib.hid (show FM Tryz.prog 3 .i64 W w.heap.size [] by rw [hW.out]; exact FM.made _ _ _ w)
  clear hW
  obtain ⟨g, hg⟩ : ∃ g, w.heap.size = g := ⟨_, rfl⟩
  rw [hg] at B0 H0
  rw [hg]
  refine wpList_insert_fm _ rfl _ _ _ _ rfl 3 217 .i64 keyK Tryz.underlying219 g _ rfl H0.out (by simp [maxLen]) 0 (meth 304 b) rfl rfl (key_mk 0 ⟨by decide, by decide⟩) ?_
  intro w1 hown hon
  have H1 := Lib.hid hown
  have B1 := Lib.hid (B0.out.trans (hon.below (Nat.le_of_lt H0.out.lt) (fun k e => by have : k = g := e; omega)))
  clear hown hon
  go_wp2_with (with_reducible refine at_insert _ _ _ _ rfl ?_)
  refine Lib.hid ?_
  refine wpList_insert_fm _ rfl _ _ _ _ rfl 3 217 .i64 keyK Tryz.underlying219 g _ rfl H1.out (by simp [maxLen]) 1 (meth 305 b) rfl rfl (key_mk 1 ⟨by decide, by decide⟩) ?_
  intro w2 hown hon
  have H2 := Lib.hid hown
  have B2 := Lib.hid (B1.out.trans (hon.below (Nat.le_of_lt H1.out.lt) (fun k e => by have : k = g := e; omega)))
  clear hown hon
  go_wp2_with (with_reducible refine at_insert _ _ _ _ rfl ?_)
  refine Lib.hid ?_
  refine wpList_insert_fm _ rfl _ _ _ _ rfl 3 217 .i64 keyK Tryz.underlying219 g _ rfl H2.out (by simp [maxLen]) 2 (meth 306 b) rfl rfl (key_mk 2 ⟨by decide, by decide⟩) ?_
  intro w3 hown hon
  have H3 := Lib.hid hown
  have B3 := Lib.hid (B2.out.trans (hon.below (Nat.le_of_lt H2.out.lt) (fun k e => by have : k = g := e; omega)))
  clear hown hon
  go_wp2_with (with_reducible refine at_insert _ _ _ _ rfl ?_)
  refine Lib.hid ?_
  refine wpList_insert_fm _ rfl _ _ _ _ rfl 3 217 .i64 keyK Tryz.underlying219 g _ rfl H3.out (by simp [maxLen]) 3 (meth 307 b) rfl rfl (key_mk 3 ⟨by decide, by decide⟩) ?_
  intro w4 hown hon
  have H4 := Lib.hid hown
  have B4 := Lib.hid (B3.out.trans (hon.below (Nat.le_of_lt H3.out.lt) (fun k e => by have : k = g := e; omega)))
  clear hown hon
  go_wp2_with fail
  go_ret
  exact ⟨⟨g, rfl, H4.out⟩, by rw [hg]; exact B4.out⟩
theorem writes_any (b : Nat) (w : World) :
    Calls Tryz.prog 303 #[.pointer (some ⟨b, 0, none⟩)] w fun e w' => (∃ g, e = .returned (.map (some g)) ∧ FM Tryz.prog 3 .i64 w' g (writeL b)) ∧ Below w.heap.size w w' := by
  have hmm := @run_makeMap Tryz.prog
  have hmf : ∀ w f r, (Instr.makeFunc (.func f) r #[]).run Tryz.prog w = .ok (.func (.func f) r #[]) w := fun w f r => rfl
  go_enter Tryz.func303, Tryz.ntmps303
  go_wp2_with (with_reducible refine at_insert _ _ _ _ rfl ?_)
  refine Lib.hid ?_
  refine list_letter ?_
  intro W hW
  have B0 := Lib.hid (show Below w.heap.size w W by rw [hW.out]; exact (Below.refl w.heap.size w).alloc (Nat.le_refl _) _)
  have H0 := Lib.hid (show FM Tryz.prog 3 .i64 W w.heap.size [] by rw [hW.out]; exact FM.made _ _ _ w)
  clear hW
  obtain ⟨g, hg⟩ : ∃ g, w.heap.size = g := ⟨_, rfl⟩
  rw [hg] at B0 H0
  rw [hg]
  refine wpList_insert_fm _ rfl _ _ _ _ rfl 3 180 .i64 keyK Tryz.underlying222 g _ rfl H0.out (by simp [maxLen]) 0 (meth 308 b) rfl rfl (key_mk 0 ⟨by decide, by decide⟩) ?_
  intro w1 hown hon
  have H1 := Lib.hid hown
  have B1 := Lib.hid (B0.out.trans (hon.below (Nat.le_of_lt H0.out.lt) (fun k e => by have : k = g := e; omega)))
  clear hown hon
  go_wp2_with (with_reducible refine at_insert _ _ _ _ rfl ?_)
  refine Lib.hid ?_
  refine wpList_insert_fm _ rfl _ _ _ _ rfl 3 180 .i64 keyK Tryz.underlying222 g _ rfl H1.out (by simp [maxLen]) 1 (meth 309 b) rfl rfl (key_mk 1 ⟨by decide, by decide⟩) ?_
  intro w2 hown hon
  have H2 := Lib.hid hown
  have B2 := Lib.hid (B1.out.trans (hon.below (Nat.le_of_lt H1.out.lt) (fun k e => by have : k = g := e; omega)))
  clear hown hon
  go_wp2_with (with_reducible refine at_insert _ _ _ _ rfl ?_)
  refine Lib.hid ?_
  refine wpList_insert_fm _ rfl _ _ _ _ rfl 3 180 .i64 keyK Tryz.underlying222 g _ rfl H2.out (by simp [maxLen]) 2 (meth 310 b) rfl rfl (key_mk 2 ⟨by decide, by decide⟩) ?_
  intro w3 hown hon
  have H3 := Lib.hid hown
  have B3 := Lib.hid (B2.out.trans (hon.below (Nat.le_of_lt H2.out.lt) (fun k e => by have : k = g := e; omega)))
  clear hown hon
  go_wp2_with (with_reducible refine at_insert _ _ _ _ rfl ?_)
  refine Lib.hid ?_
  refine wpList_insert_fm _ rfl _ _ _ _ rfl 3 180 .i64 keyK Tryz.underlying222 g _ rfl H3.out (by simp [maxLen]) 3 (meth 311 b) rfl rfl (key_mk 3 ⟨by decide, by decide⟩) ?_
  intro w4 hown hon
  have H4 := Lib.hid hown
  have B4 := Lib.hid (B3.out.trans (hon.below (Nat.le_of_lt H3.out.lt) (fun k e => by have : k = g := e; omega)))
  clear hown hon
  go_wp2_with fail
  go_ret
  exact ⟨⟨g, rfl, H4.out⟩, by rw [hg]; exact B4.out⟩
end Go.Proofs.YtknhgfofmkpnfaaGreat.Timer
/- Package timer's contracts. Tim w b s O: the timer in block b has the words s; O: the blocks that are its own. -/
namespace Go.Proofs.YtknhgfofmkpnfaaGreat.Timer
open Go.RowKit Go.Maps Go.ChangeShapes Go.WideShapes Go.ChangeAt Fifo Orow Word Fmap
set_option linter.unusedVariables false

abbrev me (b : Nat) : Value := .pointer (some ⟨b, 0, none⟩)
def Tim (w : World) (b : Nat) (s : St) (O : Nat → Prop) : Prop := TW w b s (me b) ∧ ∀ j, O j ↔ j = b
theorem Tim.only {S O : Nat → Prop} {w w' : World} {b : Nat} {s : St} (h : Tim w b s O) (ho : Only S w w') (hn : ∀ j, O j → ¬ S j) : Tim w' b s O := ⟨h.1.only ho (hn b ((h.2 b).2 rfl)), h.2⟩
theorem Tim.keep {O : Nat → Prop} {w w' : World} {b : Nat} {s : St} (h : Tim w b s O) (hb : Below w.heap.size w w') : Tim w' b s O := ⟨h.1.keep hb, h.2⟩
theorem Tim.lt {O : Nat → Prop} {w : World} {b : Nat} {s : St} (h : Tim w b s O) : ∀ j, O j → j < w.heap.size := fun j hj => by rw [(h.2 j).1 hj]; exact h.1.blk.lt
theorem Tim.ok {O : Nat → Prop} {w : World} {b : Nat} {s : St} (h : Tim w b s O) : OkS s ∧ s.K < 8 := ⟨h.1.ok, h.1.k8⟩
theorem New_any (w : World) :
    Calls Tryz.prog 37 #[] w fun e w' => (∃ b O, e = .returned (.pointer (some ⟨b, 0, none⟩)) ∧ Tim w' b zeroS O ∧ ∀ j, O j → w.heap.size ≤ j) ∧ Below w.heap.size w w' := by
  refine (New_any0 w).mono ?_
  rintro e w' ⟨⟨b, rfl, h1, h2⟩, hb⟩
  exact ⟨⟨b, fun j => j = b, rfl, ⟨h1, fun j => Iff.rfl⟩, fun j e => by have : j = b := e; omega⟩, hb⟩
theorem Of_any (s : St) (w : World) (h : OkS s) :
    Calls Tryz.prog 62 #[stv s] w fun e w' => (∃ b O, e = .returned (.pointer (some ⟨b, 0, none⟩)) ∧ Tim w' b (ofS s) O ∧ ∀ j, O j → w.heap.size ≤ j) ∧ Below w.heap.size w w' := by
  refine (Of_any0 s w h).mono ?_
  rintro e w' ⟨⟨b, rfl, h1, h2⟩, hb⟩
  exact ⟨⟨b, fun j => j = b, rfl, ⟨h1, fun j => Iff.rfl⟩, fun j e => by have : j = b := e; omega⟩, hb⟩
theorem fzero_r (w : World) : (zeroValue 217).run Tryz.prog w = .ok .nilFunc w := by kernel_rfl
theorem fzero_w (w : World) : (zeroValue 180).run Tryz.prog w = .ok .nilFunc w := by kernel_rfl
theorem look_r {w : World} {g b : Nat} (h : FM Tryz.prog 3 .i64 w g (readL b)) (k : Int) (hk : I64 k) : (Instr.lookup 219 (.map (some g)) (.int .i64 k) true).run Tryz.prog w = .ok (.tuple #[(atR (readL b) k).getD .nilFunc, .bool (atR (readL b) k).isSome]) w :=
  h.look keyK Tryz.underlying219 (fzero_r w) k (key_mk k hk)
theorem look_w {w : World} {g b : Nat} (h : FM Tryz.prog 3 .i64 w g (writeL b)) (k : Int) (hk : I64 k) : (Instr.lookup 222 (.map (some g)) (.int .i64 k) true).run Tryz.prog w = .ok (.tuple #[(atR (writeL b) k).getD .nilFunc, .bool (atR (writeL b) k).isSome]) w :=
  h.look keyK Tryz.underlying222 (fzero_w w) k (key_mk k hk)
theorem read_0 (v : Value) (s : St) (x : Value) (w : World) (ht : Calls Tryz.prog 52 #[v] w fun e w' => (∃ b, e = .returned (me b) ∧ TW w' b s x) ∧ Below w.heap.size w w') :
    Calls Tryz.prog 300 #[v, .int .i64 0] w fun e w' => e = .returned (.int .u32 s.C) ∧ Below w.heap.size w w' := by
  have hr : I64 0 := ⟨by decide, by decide⟩
  have T := Lib.hid ht
  have Kr := Lib.hid hr
  clear ht hr
  go_enter Tryz.func300, Tryz.ntmps300
  go_wp2_with fail
  refine T.out.mono ?_
  rintro e w1 ⟨⟨b, rfl, h1⟩, hb1⟩
  have T1 := Lib.hid h1
  have B1 := Lib.hid hb1
  clear h1 hb1
  go_wp2_with fail
  refine (reads_any b w1).mono ?_
  rintro e w2 ⟨⟨g, rfl, hm⟩, hb⟩
  have T2 := Lib.hid (T1.out.keep hb)
  have B2 := Lib.hid (B1.out.trans (hb.mono B1.out.size))
  have lk := look_r hm _ Kr.out
  clear hm hb
  rw [show atR (readL b) 0 = some (meth 304 b) from rfl] at lk
  simp only [Option.getD_some, Option.isSome_some, meth] at lk
  go_wp2_with fail
  refine (countNow_any b s x w2 T2.out).mono ?_
  rintro e w3 ⟨rfl, rfl⟩
  go_wp2_with fail
  go_ret
  exact ⟨rfl, B2.out⟩
theorem read_1 (v : Value) (s : St) (x : Value) (w : World) (ht : Calls Tryz.prog 52 #[v] w fun e w' => (∃ b, e = .returned (me b) ∧ TW w' b s x) ∧ Below w.heap.size w w') :
    Calls Tryz.prog 300 #[v, .int .i64 1] w fun e w' => e = .returned (.int .u32 s.L) ∧ Below w.heap.size w w' := by
  have hr : I64 1 := ⟨by decide, by decide⟩
  have T := Lib.hid ht
  have Kr := Lib.hid hr
  clear ht hr
  go_enter Tryz.func300, Tryz.ntmps300
  go_wp2_with fail
  refine T.out.mono ?_
  rintro e w1 ⟨⟨b, rfl, h1⟩, hb1⟩
  have T1 := Lib.hid h1
  have B1 := Lib.hid hb1
  clear h1 hb1
  go_wp2_with fail
  refine (reads_any b w1).mono ?_
  rintro e w2 ⟨⟨g, rfl, hm⟩, hb⟩
  have T2 := Lib.hid (T1.out.keep hb)
  have B2 := Lib.hid (B1.out.trans (hb.mono B1.out.size))
  have lk := look_r hm _ Kr.out
  clear hm hb
  rw [show atR (readL b) 1 = some (meth 305 b) from rfl] at lk
  simp only [Option.getD_some, Option.isSome_some, meth] at lk
  go_wp2_with fail
  refine (limitNow_any b s x w2 T2.out).mono ?_
  rintro e w3 ⟨rfl, rfl⟩
  go_wp2_with fail
  go_ret
  exact ⟨rfl, B2.out⟩
theorem read_2 (v : Value) (s : St) (x : Value) (w : World) (ht : Calls Tryz.prog 52 #[v] w fun e w' => (∃ b, e = .returned (me b) ∧ TW w' b s x) ∧ Below w.heap.size w w') :
    Calls Tryz.prog 300 #[v, .int .i64 2] w fun e w' => e = .returned (.int .u32 s.K) ∧ Below w.heap.size w w' := by
  have hr : I64 2 := ⟨by decide, by decide⟩
  have T := Lib.hid ht
  have Kr := Lib.hid hr
  clear ht hr
  go_enter Tryz.func300, Tryz.ntmps300
  go_wp2_with fail
  refine T.out.mono ?_
  rintro e w1 ⟨⟨b, rfl, h1⟩, hb1⟩
  have T1 := Lib.hid h1
  have B1 := Lib.hid hb1
  clear h1 hb1
  go_wp2_with fail
  refine (reads_any b w1).mono ?_
  rintro e w2 ⟨⟨g, rfl, hm⟩, hb⟩
  have T2 := Lib.hid (T1.out.keep hb)
  have B2 := Lib.hid (B1.out.trans (hb.mono B1.out.size))
  have lk := look_r hm _ Kr.out
  clear hm hb
  rw [show atR (readL b) 2 = some (meth 306 b) from rfl] at lk
  simp only [Option.getD_some, Option.isSome_some, meth] at lk
  go_wp2_with fail
  refine (ctrlNow_any b s x w2 T2.out).mono ?_
  rintro e w3 ⟨rfl, rfl⟩
  go_wp2_with fail
  go_ret
  exact ⟨rfl, B2.out⟩
theorem read_3 (v : Value) (s : St) (x : Value) (w : World) (ht : Calls Tryz.prog 52 #[v] w fun e w' => (∃ b, e = .returned (me b) ∧ TW w' b s x) ∧ Below w.heap.size w w') :
    Calls Tryz.prog 300 #[v, .int .i64 3] w fun e w' => e = .returned (.int .u32 s.H) ∧ Below w.heap.size w w' := by
  have hr : I64 3 := ⟨by decide, by decide⟩
  have T := Lib.hid ht
  have Kr := Lib.hid hr
  clear ht hr
  go_enter Tryz.func300, Tryz.ntmps300
  go_wp2_with fail
  refine T.out.mono ?_
  rintro e w1 ⟨⟨b, rfl, h1⟩, hb1⟩
  have T1 := Lib.hid h1
  have B1 := Lib.hid hb1
  clear h1 hb1
  go_wp2_with fail
  refine (reads_any b w1).mono ?_
  rintro e w2 ⟨⟨g, rfl, hm⟩, hb⟩
  have T2 := Lib.hid (T1.out.keep hb)
  have B2 := Lib.hid (B1.out.trans (hb.mono B1.out.size))
  have lk := look_r hm _ Kr.out
  clear hm hb
  rw [show atR (readL b) 3 = some (meth 307 b) from rfl] at lk
  simp only [Option.getD_some, Option.isSome_some, meth] at lk
  go_wp2_with fail
  refine (hitsNow_any b s x w2 T2.out).mono ?_
  rintro e w3 ⟨rfl, rfl⟩
  go_wp2_with fail
  go_ret
  exact ⟨rfl, B2.out⟩
theorem atR_none {l : List (Int × Value)} {a0 a1 a2 a3 : Value} (e : l = [(3, a3), (2, a2), (1, a1), (0, a0)]) {k : Int} (h0 : ¬ k = 0) (h1 : ¬ k = 1) (h2 : ¬ k = 2) (h3 : ¬ k = 3) : atR l k = none := by
  subst e
  simp only [atR]
  rw [if_neg h3, if_neg h2, if_neg h1, if_neg h0]
theorem read_4 (v : Value) (s : St) (x : Value) (reg : Int) (w : World) (hr : I64 reg) (h0 : ¬ reg = 0) (h1 : ¬ reg = 1) (h2 : ¬ reg = 2) (h3 : ¬ reg = 3) (ht : Calls Tryz.prog 52 #[v] w fun e w' => (∃ b, e = .returned (me b) ∧ TW w' b s x) ∧ Below w.heap.size w w') :
    Calls Tryz.prog 300 #[v, .int .i64 reg] w fun e w' => e = .returned (.int .u32 0) ∧ Below w.heap.size w w' := by
  have E := Lib.hid (fun b => atR_none (l := readL b) rfl h0 h1 h2 h3)
  clear h0 h1 h2 h3
  have T := Lib.hid ht
  have Kr := Lib.hid hr
  clear ht hr
  go_enter Tryz.func300, Tryz.ntmps300
  go_wp2_with fail
  refine T.out.mono ?_
  rintro e w1 ⟨⟨b, rfl, h1⟩, hb1⟩
  have T1 := Lib.hid h1
  have B1 := Lib.hid hb1
  clear h1 hb1
  go_wp2_with fail
  refine (reads_any b w1).mono ?_
  rintro e w2 ⟨⟨g, rfl, hm⟩, hb⟩
  have T2 := Lib.hid (T1.out.keep hb)
  have B2 := Lib.hid (B1.out.trans (hb.mono B1.out.size))
  have lk := look_r hm _ Kr.out
  clear hm hb
  rw [E.out b] at lk
  simp only [Option.getD_none, Option.isSome_none] at lk
  go_wp2_with fail
  go_ret
  exact ⟨rfl, B2.out⟩
theorem read_q (v : Value) (s : St) (x : Value) (reg : Int) (w : World) (hr : I64 reg) (ht : Calls Tryz.prog 52 #[v] w fun e w' => (∃ b, e = .returned (me b) ∧ TW w' b s x) ∧ Below w.heap.size w w') :
    Calls Tryz.prog 300 #[v, .int .i64 reg] w fun e w' => e = .returned (.int .u32 (readS s reg)) ∧ Below w.heap.size w w' := by
  rcases reg_cases reg with rfl | rfl | rfl | rfl | ⟨h0, h1, h2, h3⟩
  · exact read_0 v s x w ht
  · exact read_1 v s x w ht
  · exact read_2 v s x w ht
  · exact read_3 v s x w ht
  · rw [show readS s reg = 0 by unfold readS; rw [if_neg h0, if_neg h1, if_neg h2, if_neg h3]]
    exact read_4 v s x reg w hr h0 h1 h2 h3 ht
theorem Read_any (b : Nat) (s : St) (O : Nat → Prop) (reg : Int) (w : World) (h1 : I64 reg) (h : Tim w b s O) :
    Calls Tryz.prog 300 #[.pointer (some ⟨b, 0, none⟩), .int .i64 reg] w fun e w' => e = .returned (.int .u32 (readS s reg)) ∧ Below w.heap.size w w' := by
  refine read_q _ s (me b) reg w h1 ((timer_yes b w h.1.c4).mono ?_)
  rintro e w' ⟨rfl, rfl⟩
  exact ⟨⟨b, rfl, h.1⟩, Below.refl _ _⟩
theorem readS_zero (reg : Int) : readS zeroS reg = 0 := by unfold readS zeroS; split <;> (try rfl); split <;> (try rfl); split <;> (try rfl); split <;> rfl
theorem Read_non (v : Value) (reg : Int) (w : World) (h1 : I64 reg) (h : Non w v) :
    Calls Tryz.prog 300 #[v, .int .i64 reg] w fun e w' => e = .returned (.int .u32 0) ∧ Below w.heap.size w w' := by
  rw [← readS_zero reg]
  refine read_q _ zeroS (.pointer none) reg w h1 ((timer_non v w h).mono ?_)
  rintro e w' ⟨⟨b, rfl, h1, _⟩, hb⟩
  exact ⟨⟨b, rfl, h1⟩, hb⟩
theorem write_0 (v : Value) (s : St) (x : Value) (n : Int) (G : Nat → Prop) (w : World) (hn : 0 ≤ n ∧ n < 4294967296) (ht : Calls Tryz.prog 52 #[v] w fun e w' => (∃ b, e = .returned (me b) ∧ TW w' b s x ∧ G b) ∧ Below w.heap.size w w') :
    Calls Tryz.prog 301 #[v, .int .i64 0, .int .u32 n] w fun e w' => e = .returned (.tuple #[]) ∧ ∃ b, G b ∧ TW w' b (writeS s 0 n) x ∧ Only (fun j => j = b) w w' := by
  have hr : I64 0 := ⟨by decide, by decide⟩
  have Hn := Lib.hid hn
  clear hn
  have T := Lib.hid ht
  have Kr := Lib.hid hr
  clear ht hr
  go_enter Tryz.func301, Tryz.ntmps301
  go_wp2_with fail
  refine T.out.mono ?_
  rintro e w1 ⟨⟨b, rfl, h1, h2⟩, hb1⟩
  have T1 := Lib.hid h1
  have HG := Lib.hid h2
  have B1 := Lib.hid hb1
  clear h1 h2 hb1
  go_wp2_with fail
  refine (writes_any b w1).mono ?_
  rintro e w2 ⟨⟨g, rfl, hm⟩, hb⟩
  have T2 := Lib.hid (T1.out.keep hb)
  have B2 := Lib.hid (B1.out.trans (hb.mono B1.out.size))
  have lk := look_w hm _ Kr.out
  clear hm hb
  rw [show atR (writeL b) 0 = some (meth 308 b) from rfl] at lk
  simp only [Option.getD_some, Option.isSome_some, meth] at lk
  go_wp2_with fail
  refine (setCount_any b s x n w2 Hn.out T2.out).mono ?_
  rintro e w3 ⟨rfl, h3, h4⟩
  have R := Lib.hid (And.intro h3 (show Only (fun j => j = b) w w3 from (Only.of_below B2.out).trans h4))
  clear h3 h4
  go_wp2_with fail
  go_end0
  exact ⟨rfl, b, HG.out, R.out⟩
theorem write_1 (v : Value) (s : St) (x : Value) (n : Int) (G : Nat → Prop) (w : World) (hn : 0 ≤ n ∧ n < 4294967296) (ht : Calls Tryz.prog 52 #[v] w fun e w' => (∃ b, e = .returned (me b) ∧ TW w' b s x ∧ G b) ∧ Below w.heap.size w w') :
    Calls Tryz.prog 301 #[v, .int .i64 1, .int .u32 n] w fun e w' => e = .returned (.tuple #[]) ∧ ∃ b, G b ∧ TW w' b (writeS s 1 n) x ∧ Only (fun j => j = b) w w' := by
  have hr : I64 1 := ⟨by decide, by decide⟩
  have Hn := Lib.hid hn
  clear hn
  have T := Lib.hid ht
  have Kr := Lib.hid hr
  clear ht hr
  go_enter Tryz.func301, Tryz.ntmps301
  go_wp2_with fail
  refine T.out.mono ?_
  rintro e w1 ⟨⟨b, rfl, h1, h2⟩, hb1⟩
  have T1 := Lib.hid h1
  have HG := Lib.hid h2
  have B1 := Lib.hid hb1
  clear h1 h2 hb1
  go_wp2_with fail
  refine (writes_any b w1).mono ?_
  rintro e w2 ⟨⟨g, rfl, hm⟩, hb⟩
  have T2 := Lib.hid (T1.out.keep hb)
  have B2 := Lib.hid (B1.out.trans (hb.mono B1.out.size))
  have lk := look_w hm _ Kr.out
  clear hm hb
  rw [show atR (writeL b) 1 = some (meth 309 b) from rfl] at lk
  simp only [Option.getD_some, Option.isSome_some, meth] at lk
  go_wp2_with fail
  refine (setLimit_any b s x n w2 Hn.out T2.out).mono ?_
  rintro e w3 ⟨rfl, h3, h4⟩
  have R := Lib.hid (And.intro h3 (show Only (fun j => j = b) w w3 from (Only.of_below B2.out).trans h4))
  clear h3 h4
  go_wp2_with fail
  go_end0
  exact ⟨rfl, b, HG.out, R.out⟩
theorem write_2 (v : Value) (s : St) (x : Value) (n : Int) (G : Nat → Prop) (w : World) (hn : 0 ≤ n ∧ n < 4294967296) (ht : Calls Tryz.prog 52 #[v] w fun e w' => (∃ b, e = .returned (me b) ∧ TW w' b s x ∧ G b) ∧ Below w.heap.size w w') :
    Calls Tryz.prog 301 #[v, .int .i64 2, .int .u32 n] w fun e w' => e = .returned (.tuple #[]) ∧ ∃ b, G b ∧ TW w' b (writeS s 2 n) x ∧ Only (fun j => j = b) w w' := by
  have hr : I64 2 := ⟨by decide, by decide⟩
  have Hn := Lib.hid hn
  clear hn
  have T := Lib.hid ht
  have Kr := Lib.hid hr
  clear ht hr
  go_enter Tryz.func301, Tryz.ntmps301
  go_wp2_with fail
  refine T.out.mono ?_
  rintro e w1 ⟨⟨b, rfl, h1, h2⟩, hb1⟩
  have T1 := Lib.hid h1
  have HG := Lib.hid h2
  have B1 := Lib.hid hb1
  clear h1 h2 hb1
  go_wp2_with fail
  refine (writes_any b w1).mono ?_
  rintro e w2 ⟨⟨g, rfl, hm⟩, hb⟩
  have T2 := Lib.hid (T1.out.keep hb)
  have B2 := Lib.hid (B1.out.trans (hb.mono B1.out.size))
  have lk := look_w hm _ Kr.out
  clear hm hb
  rw [show atR (writeL b) 2 = some (meth 310 b) from rfl] at lk
  simp only [Option.getD_some, Option.isSome_some, meth] at lk
  go_wp2_with fail
  refine (setCtrl_any b s x n w2 Hn.out T2.out).mono ?_
  rintro e w3 ⟨rfl, h3, h4⟩
  have R := Lib.hid (And.intro h3 (show Only (fun j => j = b) w w3 from (Only.of_below B2.out).trans h4))
  clear h3 h4
  go_wp2_with fail
  go_end0
  exact ⟨rfl, b, HG.out, R.out⟩
theorem write_3 (v : Value) (s : St) (x : Value) (n : Int) (G : Nat → Prop) (w : World) (hn : 0 ≤ n ∧ n < 4294967296) (ht : Calls Tryz.prog 52 #[v] w fun e w' => (∃ b, e = .returned (me b) ∧ TW w' b s x ∧ G b) ∧ Below w.heap.size w w') :
    Calls Tryz.prog 301 #[v, .int .i64 3, .int .u32 n] w fun e w' => e = .returned (.tuple #[]) ∧ ∃ b, G b ∧ TW w' b (writeS s 3 n) x ∧ Only (fun j => j = b) w w' := by
  have hr : I64 3 := ⟨by decide, by decide⟩
  have Hn := Lib.hid hn
  clear hn
  have T := Lib.hid ht
  have Kr := Lib.hid hr
  clear ht hr
  go_enter Tryz.func301, Tryz.ntmps301
  go_wp2_with fail
  refine T.out.mono ?_
  rintro e w1 ⟨⟨b, rfl, h1, h2⟩, hb1⟩
  have T1 := Lib.hid h1
  have HG := Lib.hid h2
  have B1 := Lib.hid hb1
  clear h1 h2 hb1
  go_wp2_with fail
  refine (writes_any b w1).mono ?_
  rintro e w2 ⟨⟨g, rfl, hm⟩, hb⟩
  have T2 := Lib.hid (T1.out.keep hb)
  have B2 := Lib.hid (B1.out.trans (hb.mono B1.out.size))
  have lk := look_w hm _ Kr.out
  clear hm hb
  rw [show atR (writeL b) 3 = some (meth 311 b) from rfl] at lk
  simp only [Option.getD_some, Option.isSome_some, meth] at lk
  go_wp2_with fail
  refine (forgetHits_any b s x n w2 Hn.out T2.out).mono ?_
  rintro e w3 ⟨rfl, h3, h4⟩
  have R := Lib.hid (And.intro h3 (show Only (fun j => j = b) w w3 from (Only.of_below B2.out).trans h4))
  clear h3 h4
  go_wp2_with fail
  go_end0
  exact ⟨rfl, b, HG.out, R.out⟩
theorem write_4 (v : Value) (s : St) (x : Value) (reg n : Int) (G : Nat → Prop) (w : World) (hr : I64 reg) (h0 : ¬ reg = 0) (h1 : ¬ reg = 1) (h2 : ¬ reg = 2) (h3 : ¬ reg = 3) (ht : Calls Tryz.prog 52 #[v] w fun e w' => (∃ b, e = .returned (me b) ∧ TW w' b s x ∧ G b) ∧ Below w.heap.size w w') :
    Calls Tryz.prog 301 #[v, .int .i64 reg, .int .u32 n] w fun e w' => e = .returned (.tuple #[]) ∧ ∃ b, G b ∧ TW w' b (writeS s reg n) x ∧ Only (fun j => j = b) w w' := by
  rw [show writeS s reg n = s by unfold writeS; rw [if_neg h0, if_neg h1, if_neg h2, if_neg h3]]
  have E := Lib.hid (fun b => atR_none (l := writeL b) rfl h0 h1 h2 h3)
  clear h0 h1 h2 h3
  have T := Lib.hid ht
  have Kr := Lib.hid hr
  clear ht hr
  go_enter Tryz.func301, Tryz.ntmps301
  go_wp2_with fail
  refine T.out.mono ?_
  rintro e w1 ⟨⟨b, rfl, h1, h2⟩, hb1⟩
  have T1 := Lib.hid h1
  have HG := Lib.hid h2
  have B1 := Lib.hid hb1
  clear h1 h2 hb1
  go_wp2_with fail
  refine (writes_any b w1).mono ?_
  rintro e w2 ⟨⟨g, rfl, hm⟩, hb⟩
  have T2 := Lib.hid (T1.out.keep hb)
  have B2 := Lib.hid (B1.out.trans (hb.mono B1.out.size))
  have lk := look_w hm _ Kr.out
  clear hm hb
  rw [E.out b] at lk
  simp only [Option.getD_none, Option.isSome_none] at lk
  go_wp2_with fail
  go_end0
  exact ⟨rfl, b, HG.out, T2.out, Only.of_below B2.out⟩
theorem write_q (v : Value) (s : St) (x : Value) (reg n : Int) (G : Nat → Prop) (w : World) (hr : I64 reg) (hn : 0 ≤ n ∧ n < 4294967296) (ht : Calls Tryz.prog 52 #[v] w fun e w' => (∃ b, e = .returned (me b) ∧ TW w' b s x ∧ G b) ∧ Below w.heap.size w w') :
    Calls Tryz.prog 301 #[v, .int .i64 reg, .int .u32 n] w fun e w' => e = .returned (.tuple #[]) ∧ ∃ b, G b ∧ TW w' b (writeS s reg n) x ∧ Only (fun j => j = b) w w' := by
  rcases reg_cases reg with rfl | rfl | rfl | rfl | ⟨h0, h1, h2, h3⟩
  · exact write_0 v s x n G w hn ht
  · exact write_1 v s x n G w hn ht
  · exact write_2 v s x n G w hn ht
  · exact write_3 v s x n G w hn ht
  · exact write_4 v s x reg n G w hr h0 h1 h2 h3 ht
theorem Write_any (b : Nat) (s : St) (O : Nat → Prop) (reg v : Int) (w : World) (h1 : I64 reg) (h2 : 0 ≤ v ∧ v < 4294967296) (h : Tim w b s O) :
    Calls Tryz.prog 301 #[.pointer (some ⟨b, 0, none⟩), .int .i64 reg, .int .u32 v] w fun e w' => e = .returned (.tuple #[]) ∧ ∃ O', Tim w' b (writeS s reg v) O' ∧ Only O w w' ∧ ∀ j, O' j → O j ∨ w.heap.size ≤ j := by
  refine (write_q _ s (me b) reg v (fun k => k = b) w h1 h2 ((timer_yes b w h.1.c4).mono ?_)).mono ?_
  · rintro e w' ⟨rfl, rfl⟩
    exact ⟨⟨b, rfl, h.1, rfl⟩, Below.refl _ _⟩
  · rintro e w' ⟨rfl, k, hk, a1, a2⟩
    have hk : k = b := hk
    subst hk
    exact ⟨rfl, O, ⟨a1, h.2⟩, a2.mono (fun j _ e => (h.2 j).2 e), fun j hj => .inl hj⟩
theorem Write_non (v : Value) (reg x : Int) (w : World) (h1 : I64 reg) (h2 : 0 ≤ x ∧ x < 4294967296) (h : Non w v) :
    Calls Tryz.prog 301 #[v, .int .i64 reg, .int .u32 x] w fun e w' => e = .returned (.tuple #[]) ∧ Below w.heap.size w w' := by
  refine (write_q v zeroS (.pointer none) reg x (fun k => w.heap.size ≤ k) w h1 h2 ((timer_non v w h).mono ?_)).mono ?_
  · rintro e w' ⟨⟨b, rfl, h1, h2⟩, hb⟩
    exact ⟨⟨b, rfl, h1, h2⟩, hb⟩
  · rintro e w' ⟨rfl, k, hk, a1, a2⟩
    exact ⟨rfl, a2.below (Nat.le_refl _) (fun j e => by have : j = k := e; rw [this]; exact hk)⟩
theorem tick_q (v : Value) (s : St) (x : Value) (G : Nat → Prop) (w : World) (ht : Calls Tryz.prog 52 #[v] w fun e w' => (∃ b, e = .returned (me b) ∧ TW w' b s x ∧ G b) ∧ Below w.heap.size w w') :
    Calls Tryz.prog 29 #[v] w fun e w' => e = .returned (.tuple #[]) ∧ ∃ b, G b ∧ TW w' b (tickS s) x ∧ Only (fun j => j = b) w w' := by
  have T := Lib.hid ht
  clear ht
  go_enter Tryz.func29, Tryz.ntmps29
  go_wp2_with fail
  refine T.out.mono ?_
  rintro e w1 ⟨⟨b, rfl, h1, h2⟩, hb1⟩
  have T1 := Lib.hid h1
  have HG := Lib.hid h2
  have B1 := Lib.hid hb1
  clear h1 h2 hb1
  go_wp2_with fail
  refine (tick_any b s x w1 T1.out).mono ?_
  rintro e w3 ⟨rfl, h3, h4⟩
  have R := Lib.hid (And.intro h3 (show Only (fun j => j = b) w w3 from (Only.of_below B1.out).trans h4))
  clear h3 h4
  go_wp2_with fail
  go_end0
  exact ⟨rfl, b, HG.out, R.out⟩
theorem Tick_any (b : Nat) (s : St) (O : Nat → Prop) (w : World) (h : Tim w b s O) :
    Calls Tryz.prog 29 #[.pointer (some ⟨b, 0, none⟩)] w fun e w' => e = .returned (.tuple #[]) ∧ ∃ O', Tim w' b (tickS s) O' ∧ Only O w w' ∧ ∀ j, O' j → O j ∨ w.heap.size ≤ j := by
  refine (tick_q _ s (me b) (fun k => k = b) w ((timer_yes b w h.1.c4).mono ?_)).mono ?_
  · rintro e w' ⟨rfl, rfl⟩
    exact ⟨⟨b, rfl, h.1, rfl⟩, Below.refl _ _⟩
  · rintro e w' ⟨rfl, k, hk, a1, a2⟩
    have hk : k = b := hk
    subst hk
    exact ⟨rfl, O, ⟨a1, h.2⟩, a2.mono (fun j _ e => (h.2 j).2 e), fun j hj => .inl hj⟩
theorem Tick_non (v : Value) (w : World) (h : Non w v) :
    Calls Tryz.prog 29 #[v] w fun e w' => e = .returned (.tuple #[]) ∧ Below w.heap.size w w' := by
  refine (tick_q v zeroS (.pointer none) (fun k => w.heap.size ≤ k) w ((timer_non v w h).mono ?_)).mono ?_
  · rintro e w' ⟨⟨b, rfl, h1, h2⟩, hb⟩
    exact ⟨⟨b, rfl, h1, h2⟩, hb⟩
  · rintro e w' ⟨rfl, k, hk, a1, a2⟩
    exact ⟨rfl, a2.below (Nat.le_refl _) (fun j e => by have : j = k := e; rw [this]; exact hk)⟩
theorem line_q (v : Value) (s : St) (x : Value) (w : World) (ht : Calls Tryz.prog 52 #[v] w fun e w' => (∃ b, e = .returned (me b) ∧ TW w' b s x) ∧ Below w.heap.size w w') :
    Calls Tryz.prog 128 #[v] w fun e w' => e = .returned (.bool (lineS s)) ∧ Below w.heap.size w w' := by
  have T := Lib.hid ht
  clear ht
  go_enter Tryz.func128, Tryz.ntmps128
  go_wp2_with fail
  refine T.out.mono ?_
  rintro e w1 ⟨⟨b, rfl, h1⟩, hb1⟩
  have T1 := Lib.hid h1
  have B1 := Lib.hid hb1
  clear h1 hb1
  go_wp2_with fail
  refine (line_any b s x w1 T1.out).mono ?_
  rintro e w3 ⟨rfl, rfl⟩
  go_wp2_with fail
  go_ret
  exact ⟨rfl, B1.out⟩
theorem state_q (v : Value) (s : St) (x : Value) (w : World) (ht : ∀ W, Below w.heap.size w W → Calls Tryz.prog 52 #[v] W fun e w' => (∃ b, e = .returned (me b) ∧ TW w' b s x) ∧ Below W.heap.size W w') :
    Calls Tryz.prog 127 #[v] w fun e w' => e = .returned (stv s) ∧ Below w.heap.size w w' := by
  have T := Lib.hid ht
  clear ht
  obtain ⟨g, hg⟩ : ∃ g, w.heap.size = g := ⟨_, rfl⟩
  have HG := Lib.hid hg
  go_enter Tryz.func127, Tryz.ntmps127
  go_wp2_with fail
  refine calls_letter ?_
  intro W hW
  have B0 := Lib.hid (show Below w.heap.size w W by rw [hW.out]; exact (Below.refl _ _).alloc (Nat.le_refl _) _)
  have Z := Lib.hid (show Blk W g 122 [.int .u32 0, .int .u32 0, .int .u32 0, .int .u32 0] by rw [hW.out, ← HG.out]; exact Blk.new w _ _)
  clear hW hg
  refine (T.out W B0.out).mono ?_
  rintro e w1 ⟨⟨b, rfl, h1⟩, hb1⟩
  have T1 := Lib.hid h1
  have B1 := Lib.hid (B0.out.trans (hb1.mono B0.out.size))
  have Z1 := Lib.hid (Z.out.keep hb1)
  clear h1 hb1
  go_wp2_with fail
  refine (state_any b s x w1 T1.out).mono ?_
  rintro e w2 ⟨rfl, hb⟩
  have B2 := Lib.hid (B1.out.trans (hb.mono B1.out.size))
  have Z2 := Lib.hid (Z1.out.keep hb)
  clear hb
  go_wp2_with (with_reducible refine at_store _ _ _ rfl ?_)
  refine Lib.hid ?_
  refine store_all rfl _ _ _ rfl g [.int .u32 s.C, .int .u32 s.L, .int .u32 s.K, .int .u32 s.H] rfl rfl 122 _ Z2.out (by kernel_rfl) rfl (by simp [Value.oneCell']) ?_
  intro Y hY hoY
  have R := Lib.hid hY
  have O := Lib.hid (show Below g w Y by
    have B := B2.out
    rw [HG.out] at B
    exact B.trans (hoY.below (Nat.le_of_lt Z2.out.lt) (fun k e => by have : k = g := e; omega)))
  clear hY hoY
  have r0 := R.out.at 0 rfl
  have r1 := R.out.at 1 rfl
  have r2 := R.out.at 2 rfl
  have r3 := R.out.at 3 rfl
  go_wp2_with fail
  refine bodyPost_ret (v := stv s) ?_ rfl ⟨rfl, by rw [HG.out]; exact O.out⟩
  simp [results, Tryz.results127, go_sem, stv, r0, r1, r2, r3]
theorem Line_any (b : Nat) (s : St) (O : Nat → Prop) (w : World) (h : Tim w b s O) :
    Calls Tryz.prog 128 #[.pointer (some ⟨b, 0, none⟩)] w fun e w' => e = .returned (.bool (lineS s)) ∧ Below w.heap.size w w' := by
  refine line_q _ s (me b) w ((timer_yes b w h.1.c4).mono ?_)
  rintro e w' ⟨rfl, rfl⟩
  exact ⟨⟨b, rfl, h.1⟩, Below.refl _ _⟩
theorem Line_non (v : Value) (w : World) (h : Non w v) :
    Calls Tryz.prog 128 #[v] w fun e w' => e = .returned (.bool false) ∧ Below w.heap.size w w' := by
  rw [show false = lineS zeroS from rfl]
  refine line_q _ zeroS (.pointer none) w ((timer_non v w h).mono ?_)
  rintro e w' ⟨⟨b, rfl, h1, _⟩, hb⟩
  exact ⟨⟨b, rfl, h1⟩, hb⟩
theorem State_any (b : Nat) (s : St) (O : Nat → Prop) (w : World) (h : Tim w b s O) :
    Calls Tryz.prog 127 #[.pointer (some ⟨b, 0, none⟩)] w fun e w' => e = .returned (stv s) ∧ Below w.heap.size w w' := by
  refine state_q _ s (me b) w (fun W hW => ((timer_yes b W (h.1.keep hW).c4).mono ?_))
  rintro e w' ⟨rfl, rfl⟩
  exact ⟨⟨b, rfl, h.1.keep hW⟩, Below.refl _ _⟩
theorem State_non (v : Value) (w : World) (h : Non w v) :
    Calls Tryz.prog 127 #[v] w fun e w' => e = .returned (stv zeroS) ∧ Below w.heap.size w w' := by
  refine state_q _ zeroS (.pointer none) w (fun W hW => (timer_non v W (h.keep hW)).mono ?_)
  rintro e w' ⟨⟨b, rfl, h1, _⟩, hb⟩
  exact ⟨⟨b, rfl, h1⟩, hb⟩
end Go.Proofs.YtknhgfofmkpnfaaGreat.Timer
