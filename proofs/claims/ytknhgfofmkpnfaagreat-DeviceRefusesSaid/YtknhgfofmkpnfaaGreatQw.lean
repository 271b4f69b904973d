/- Put together: Qa, Qu, Qv, Qx, Qy, Qw. -/
import Derived.Test.YtknhgfofmkpnfaaGreatBa
import Derived.Test.YtknhgfofmkpnfaaGreatOw
import Derived.Test.YtknhgfofmkpnfaaGreatZa
import Derived.Test.YtknhgfofmkpnfaaGreatFb
import Derived.Laws.BitsAllLaws
import Derived.LaidEqlPtr
import Derived.Deep.RegionHeld3
import Derived.Deep.RegionWith
import Derived.RangeFuncNested
import Derived.OwnWalk
import Derived.Laws.OwnMore
import Derived.Maps.OwnIn
/- Plain: what a uart has; what is read, written, comes, what a tick makes. -/
namespace Go.Proofs.YtknhgfofmkpnfaaGreat.Uart
set_option linter.unusedVariables false

structure Un where
  Came : List Int
  Goes : List Int
  LI : Bool
  LO : Bool
  C : Int
  P : Int
def zeroU : Un := ⟨[], [], false, false, 0, 0⟩
def OkB (l : List Int) : Prop := ∀ x, x ∈ l → 0 ≤ x ∧ x < 256
structure OkU (u : Un) : Prop where
  came : OkB u.Came ∧ u.Came.length ≤ 8
  goes : OkB u.Goes ∧ u.Goes.length ≤ 8
  c : 0 ≤ u.C ∧ u.C ≤ 1
  p : 0 ≤ u.P ∧ u.P < 4
def flagsU (u : Un) : Int := u.Came.length + 256 * u.Goes.length + (if u.LI then 65536 else 0) + (if u.LO then 131072 else 0)
/-- What is read, and what stays. -/
def readU (u : Un) (reg : Int) : Int × Un :=
  if reg = 0 then (match u.Came with
    | [] => (0, u)
    | b :: t => (256 + b, { u with Came := t }))
  else if reg = 1 then (flagsU u, u) else if reg = 2 then (u.C, u) else (0, u)
def writeU (u : Un) (reg v : Int) : Un :=
  if reg = 0 then (if u.Goes.length = 8 then { u with LO := true } else { u with Goes := u.Goes ++ [v % 256] })
  else if reg = 2 then { u with C := v % 2 } else if reg = 3 then { u with LI := false, LO := false } else u
def inputU (u : Un) (b : Int) : Bool × Un := if u.Came.length = 8 then (false, { u with LI := true }) else (true, { u with Came := u.Came ++ [b] })
/-- A tick: the byte that goes out, whether one does, what stays. -/
def tickU (u : Un) : Int × Bool × Un :=
  if u.P = 3 then (match u.Goes with
    | [] => (0, false, { u with P := 0 })
    | b :: t => (b, true, { u with P := 0, Goes := t }))
  else (0, false, { u with P := u.P + 1 })
def lineU (u : Un) : Bool := decide (u.C = 1 ∧ 0 < u.Came.length)
theorem okB_snoc {l : List Int} {b : Int} (h : OkB l) (hb : 0 ≤ b ∧ b < 256) : OkB (l ++ [b]) := by
  intro x hx
  rcases List.mem_append.mp hx with h1 | h1
  · exact h x h1
  · rw [List.mem_singleton.mp h1]; exact hb
theorem okB_tail {b : Int} {t : List Int} (h : OkB (b :: t)) : OkB t := fun x hx => h x (List.mem_cons_of_mem _ hx)
theorem okB_nil : OkB [] := fun x hx => absurd hx (by simp)
theorem okU_zero : OkU zeroU := ⟨⟨okB_nil, by decide⟩, ⟨okB_nil, by decide⟩, ⟨by decide, by decide⟩, ⟨by decide, by decide⟩⟩
theorem okU_read {u : Un} (h : OkU u) (reg : Int) : OkU (readU u reg).2 := by
  unfold readU
  split
  · split
    · exact h
    · rename_i b t e
      have h1 := h.came
      rw [e] at h1
      exact ⟨⟨okB_tail h1.1, by have := h1.2; simp at this; show t.length ≤ 8; omega⟩, h.goes, h.c, h.p⟩
  split
  · exact h
  split
  · exact h
  · exact h
theorem read_b {u : Un} (h : OkU u) (reg : Int) : 0 ≤ (readU u reg).1 ∧ (readU u reg).1 < 4294967296 := by
  have h1 := h.came
  have h2 := h.goes
  have h3 := h.c
  unfold readU
  split
  · split
    · exact ⟨Int.le_refl 0, by show (0 : Int) < _; omega⟩
    · rename_i b t e
      rw [e] at h1
      have := h1.1 b List.mem_cons_self
      show 0 ≤ 256 + b ∧ 256 + b < _
      omega
  split
  · show 0 ≤ flagsU u ∧ flagsU u < _
    unfold flagsU
    have a := h1.2
    have b := h2.2
    split <;> split <;> omega
  split
  · show 0 ≤ u.C ∧ u.C < _
    omega
  · exact ⟨Int.le_refl 0, by show (0 : Int) < _; omega⟩
theorem okU_write {u : Un} (h : OkU u) (reg v : Int) : OkU (writeU u reg v) := by
  unfold writeU
  split
  · split
    · exact ⟨h.came, h.goes, h.c, h.p⟩
    · rename_i h8
      have h2 := h.goes
      exact ⟨h.came, ⟨okB_snoc h2.1 (by omega), by rw [List.length_append]; have := h2.2; show u.Goes.length + 1 ≤ 8; omega⟩, h.c, h.p⟩
  split
  · exact ⟨h.came, h.goes, by show 0 ≤ v % 2 ∧ v % 2 ≤ 1; omega, h.p⟩
  split
  · exact ⟨h.came, h.goes, h.c, h.p⟩
  · exact h
theorem okU_input {u : Un} (h : OkU u) {b : Int} (hb : 0 ≤ b ∧ b < 256) : OkU (inputU u b).2 := by
  unfold inputU
  split
  · exact ⟨h.came, h.goes, h.c, h.p⟩
  · rename_i h8
    have h2 := h.came
    exact ⟨⟨okB_snoc h2.1 hb, by rw [List.length_append]; have := h2.2; show u.Came.length + 1 ≤ 8; omega⟩, h.goes, h.c, h.p⟩
theorem okU_tick {u : Un} (h : OkU u) : OkU (tickU u).2.2 := by
  have hp := h.p
  unfold tickU
  split
  · split
    · exact ⟨h.came, h.goes, h.c, by show (0 : Int) ≤ 0 ∧ (0 : Int) < 4; omega⟩
    · rename_i b t e
      have h1 := h.goes
      rw [e] at h1
      exact ⟨h.came, ⟨okB_tail h1.1, by have := h1.2; simp at this; show t.length ≤ 8; omega⟩, h.c, by show (0 : Int) ≤ 0 ∧ (0 : Int) < 4; omega⟩
  · exact ⟨h.came, h.goes, h.c, by show 0 ≤ u.P + 1 ∧ u.P + 1 < 4; omega⟩
theorem tick_b {u : Un} (h : OkU u) : 0 ≤ (tickU u).1 ∧ (tickU u).1 < 256 := by
  unfold tickU
  split
  · split
    · exact ⟨Int.le_refl 0, by show (0 : Int) < _; omega⟩
    · rename_i b t e
      have h1 := h.goes
      rw [e] at h1
      exact h1.1 b List.mem_cons_self
  · exact ⟨Int.le_refl 0, by show (0 : Int) < _; omega⟩
end Go.Proofs.YtknhgfofmkpnfaaGreat.Uart
/- Package uart: a uart in a block, over two rows that were answered (8 places), or over none (no place). -/
namespace Go.Proofs.YtknhgfofmkpnfaaGreat.Uart
open Go.RowKit Go.Maps Go.ChangeShapes Go.WideShapes Go.ChangeAt Fifo Orow Word
set_option linter.unusedVariables false

def I64 (x : Int) : Prop := -9223372036854775808 ≤ x ∧ x ≤ 9223372036854775807
theorem bvz (l : List Int) : (bv l).length = l.length := by simp [bv]
/-- A row that is one, or none; how many places; what it has; which blocks. -/
def Rw (w : World) (p : Value) (room : Nat) (l : List Int) (O : Nat → Prop) : Prop :=
  (∃ g, p = .pointer (some ⟨g, 0, none⟩) ∧ FB.St w g room (bv l) O) ∨ (p = .pointer none ∧ room = 0 ∧ l = [] ∧ O = fun _ => False)
theorem Rw.only {S O : Nat → Prop} {w w' : World} {p : Value} {room : Nat} {l : List Int} (h : Rw w p room l O) (ho : Only S w w') (hn : ∀ j, O j → ¬ S j) : Rw w' p room l O := by
  rcases h with ⟨g, rfl, h⟩ | h
  · exact .inl ⟨g, rfl, h.only ho hn⟩
  · exact .inr h
theorem Rw.keep {O : Nat → Prop} {w w' : World} {p : Value} {room : Nat} {l : List Int} (h : Rw w p room l O) (hb : Below w.heap.size w w') : Rw w' p room l O :=
  h.only (S := fun _ => False) (Only.of_below hb) (fun _ _ e => e)
theorem Rw.lt {O : Nat → Prop} {w : World} {p : Value} {room : Nat} {l : List Int} (h : Rw w p room l O) : ∀ j, O j → j < w.heap.size := by
  rcases h with ⟨g, rfl, h⟩ | ⟨_, _, _, rfl⟩
  · exact h.lt
  · exact fun j e => e.elim
theorem Rw.le {O : Nat → Prop} {w : World} {p : Value} {room : Nat} {l : List Int} (h : Rw w p room l O) : l.length ≤ room := by
  rcases h with ⟨g, rfl, h⟩ | ⟨_, rfl, rfl, _⟩
  · have := h.le; rwa [bvz] at this
  · exact Nat.le_refl _
theorem Rw.put {O : Nat → Prop} {w : World} {p : Value} {room : Nat} {l : List Int} (h : Rw w p room l O) (h9 : l.length ≤ 1900) (x : Int) (ok : Bool) (l' : List Int) (hok : decide (l.length < room) = ok) (hl' : (if ok then l ++ [x] else l) = l') :
    Calls Tryz.prog 88 #[p, .int .u8 x] w fun e w' => e = .returned (.bool ok) ∧ ∃ O', Rw w' p room l' O' ∧ Only O w w' ∧ ∀ j, O' j → O j ∨ w.heap.size ≤ j := by
  rcases h with ⟨g, rfl, h⟩ | ⟨rfl, rfl, rfl, rfl⟩
  · refine (FB.Put_st g room (bv l) (bv l') O (.int .u8 x) ok w h (by rw [bvz]; exact h9) ⟨x, rfl⟩ (by rw [bvz]; exact hok) (by rw [← hl']; cases ok <;> simp [bv])).mono ?_
    rintro e w' ⟨rfl, O', h1, h2, h3⟩
    exact ⟨rfl, O', .inl ⟨g, rfl, h1⟩, h2, h3⟩
  · have e : ok = false := by rw [← hok]; rfl
    subst e
    have e : l' = [] := by rw [← hl']; rfl
    subst e
    refine (FB.Put_non _ (.int .u8 x) w (.inl rfl)).mono ?_
    rintro e w' ⟨rfl, hb⟩
    exact ⟨rfl, fun _ => False, .inr ⟨rfl, rfl, rfl, rfl⟩, Only.of_below hb, fun j e => e.elim⟩
def fstB (l : List Int) : Int := l.headD 0
theorem Rw.take {O : Nat → Prop} {w : World} {p : Value} {room : Nat} {l : List Int} (h : Rw w p room l O) :
    Calls Tryz.prog 55 #[p] w fun e w' => e = .returned (.tuple #[.int .u8 (fstB l), .bool (!l.isEmpty)]) ∧ Rw w' p room l.tail O ∧ Only O w w' := by
  rcases h with ⟨g, rfl, h⟩ | ⟨rfl, rfl, rfl, rfl⟩
  · refine (FB.Take_st g room (bv l) O w h).mono ?_
    rintro e w' ⟨rfl, h1, h2⟩
    cases l with
    | nil => exact ⟨rfl, .inl ⟨g, rfl, h1⟩, h2⟩
    | cons b t => exact ⟨rfl, .inl ⟨g, rfl, h1⟩, h2⟩
  · refine (FB.Take_non _ w (.inl rfl)).mono ?_
    rintro e w' ⟨rfl, hb⟩
    exact ⟨rfl, .inr ⟨rfl, rfl, rfl, rfl⟩, Only.of_below hb⟩
theorem Rw.len {O : Nat → Prop} {w : World} {p : Value} {room : Nat} {l : List Int} (h : Rw w p room l O) :
    Calls Tryz.prog 142 #[p] w fun e w' => e = .returned (.int .i64 (l.length : Nat)) ∧ Below w.heap.size w w' := by
  rcases h with ⟨g, rfl, h⟩ | ⟨rfl, rfl, rfl, rfl⟩
  · refine (FB.Len_st g room (bv l) O w h).mono ?_
    rintro e w' ⟨rfl, rfl⟩
    exact ⟨by rw [bvz], Below.refl _ _⟩
  · exact FB.Len_non _ w (.inl rfl)
/-- All, asked of a row, or of none. -/
theorem Rw.all {O : Nat → Prop} {w : World} {p : Value} {room : Nat} {l : List Int} (h : Rw w p room l O) :
    Calls Tryz.prog 157 #[p] w fun e w' => ∃ box, e = .returned (.func (.func 158) #[] #[.pointer (some ⟨box, 0, none⟩)]) ∧ Below w.heap.size w w' ∧
      ∀ m w'', 2 ≤ m → Below w'.heap.size w' w'' → SeqC Fence.wide m Tryz.prog 158 (fun lp => #[] ++ #[.func (.yield lp) #[] #[]] ++ #[.pointer (some ⟨box, 0, none⟩)]) l.length (FB.els (bv l)) (fun _ => False) w'' := by
  rcases h with ⟨g, rfl, h⟩ | ⟨rfl, rfl, rfl, rfl⟩
  · refine (FB.All_st g room (bv l) O w h).mono ?_
    rintro e w' ⟨box, rfl, _, hb, hs⟩
    rw [bvz] at hs
    exact ⟨box, rfl, hb, hs⟩
  · exact FB.All_non none w (.inl rfl)

def lostU (u : Un) : Int := (if u.LI then 65536 else 0) + (if u.LO then 131072 else 0)
abbrev cellsU (u : Un) (p q x : Value) : List Value := [.int .u32 (lostU u), .int .u32 u.C, p, q, .int .i64 u.P, x]
/-- A uart in block b. -/
structure UB (w : World) (b room : Nat) (u : Un) (p q x : Value) (A B : Nat → Prop) : Prop where
  blk : Blk w b 116 (cellsU u p q x)
  came : Rw w p room u.Came A
  goes : Rw w q room u.Goes B
  ok : OkU u
  na : ¬ A b
  nb : ¬ B b
  ab : ∀ j, A j → ¬ B j
/-- The same, with the blocks that are its own. -/
def UW (w : World) (b room : Nat) (u : Un) (x : Value) (O : Nat → Prop) : Prop := ∃ p q A B, UB w b room u p q x A B ∧ ∀ j, O j ↔ (j = b ∨ A j ∨ B j)
theorem UB.only {S : Nat → Prop} {w w' : World} {b room : Nat} {u : Un} {p q x : Value} {A B : Nat → Prop} (h : UB w b room u p q x A B) (ho : Only S w w') (h1 : ¬ S b) (h2 : ∀ j, A j → ¬ S j) (h3 : ∀ j, B j → ¬ S j) : UB w' b room u p q x A B :=
  ⟨h.blk.only ho h1, h.came.only ho h2, h.goes.only ho h3, h.ok, h.na, h.nb, h.ab⟩
theorem UB.keep {w w' : World} {b room : Nat} {u : Un} {p q x : Value} {A B : Nat → Prop} (h : UB w b room u p q x A B) (hb : Below w.heap.size w w') : UB w' b room u p q x A B :=
  h.only (S := fun _ => False) (Only.of_below hb) (fun e => e) (fun _ _ e => e) (fun _ _ e => e)
theorem UW.only {S O : Nat → Prop} {w w' : World} {b room : Nat} {u : Un} {x : Value} (h : UW w b room u x O) (ho : Only S w w') (hn : ∀ j, O j → ¬ S j) : UW w' b room u x O := by
  obtain ⟨p, q, A, B, h, e⟩ := h
  exact ⟨p, q, A, B, h.only ho (hn b ((e b).2 (.inl rfl))) (fun j hj => hn j ((e j).2 (.inr (.inl hj)))) (fun j hj => hn j ((e j).2 (.inr (.inr hj)))), e⟩
theorem UW.keep {O : Nat → Prop} {w w' : World} {b room : Nat} {u : Un} {x : Value} (h : UW w b room u x O) (hb : Below w.heap.size w w') : UW w' b room u x O :=
  h.only (S := fun _ => False) (Only.of_below hb) (fun _ _ e => e)
theorem UW.lt {O : Nat → Prop} {w : World} {b room : Nat} {u : Un} {x : Value} (h : UW w b room u x O) : ∀ j, O j → j < w.heap.size := by
  obtain ⟨p, q, A, B, h, e⟩ := h
  intro j hj
  rcases (e j).1 hj with rfl | hj | hj
  · exact h.blk.lt
  · exact h.came.lt j hj
  · exact h.goes.lt j hj
theorem UW.ok {O : Nat → Prop} {w : World} {b room : Nat} {u : Un} {x : Value} (h : UW w b room u x O) : OkU u := by
  obtain ⟨p, q, A, B, h, e⟩ := h
  exact h.ok
/-- What came has turned. -/
theorem UB.toCame {w w' : World} {b room : Nat} {u u' : Un} {p q x : Value} {A A' B : Nat → Prop} (h : UB w b room u p q x A B) (h1 : Rw w' p room u'.Came A') (ho : Only A w w') (hA : ∀ j, A' j → A j ∨ w.heap.size ≤ j)
    (hok : OkU u') (e1 : u'.Goes = u.Goes) (e2 : lostU u' = lostU u) (e3 : u'.C = u.C) (e4 : u'.P = u.P) : UB w' b room u' p q x A' B := by
  have hb := h.blk.only ho h.na
  refine ⟨by unfold cellsU; rw [e2, e3, e4]; exact hb, h1, by rw [e1]; exact h.goes.only ho (fun j hj e => h.ab j e hj), hok, fun e => ?_, h.nb, fun j hj e => ?_⟩
  · rcases hA b e with k | k
    · exact h.na k
    · have := h.blk.lt; omega
  · rcases hA j hj with k | k
    · exact h.ab j k e
    · have := h.goes.lt j e; omega
theorem UB.toGoes {w w' : World} {b room : Nat} {u u' : Un} {p q x : Value} {A B B' : Nat → Prop} (h : UB w b room u p q x A B) (h1 : Rw w' q room u'.Goes B') (ho : Only B w w') (hB : ∀ j, B' j → B j ∨ w.heap.size ≤ j)
    (hok : OkU u') (e1 : u'.Came = u.Came) (e2 : lostU u' = lostU u) (e3 : u'.C = u.C) (e4 : u'.P = u.P) : UB w' b room u' p q x A B' := by
  have hb := h.blk.only ho h.nb
  refine ⟨by unfold cellsU; rw [e2, e3, e4]; exact hb, by rw [e1]; exact h.came.only ho (fun j hj e => h.ab j hj e), h1, hok, h.na, fun e => ?_, fun j hj e => ?_⟩
  · rcases hB b e with k | k
    · exact h.nb k
    · have := h.blk.lt; omega
  · rcases hB j e with k | k
    · exact h.ab j hj k
    · have := h.came.lt j hj; omega
/-- A cell of its block is written. -/
theorem UB.toCell {w : World} {b room : Nat} {u u' : Un} {p q x : Value} {A B : Nat → Prop} (h : UB w b room u p q x A B) (k : Nat) (v : Value) (hc : (cellsU u p q x).set k v = cellsU u' p q x) (hok : OkU u') (e1 : u'.Came = u.Came) (e2 : u'.Goes = u.Goes) :
    UB (w.setCell ⟨b, k, none⟩ v) b room u' p q x A B := by
  have ho : Only (fun j => j = b) w (w.setCell ⟨b, k, none⟩ v) := (Only.refl (fun j => j = b) w).setCell (p := ⟨b, k, none⟩) rfl v
  refine ⟨by have := h.blk.set k v; rwa [hc] at this, by rw [e1]; exact h.came.only ho (fun j hj e => h.na (by have e : j = b := e; rwa [e] at hj)), by rw [e2]; exact h.goes.only ho (fun j hj e => h.nb (by have e : j = b := e; rwa [e] at hj)), hok, h.na, h.nb, h.ab⟩
/-- None of it. -/
theorem UB.zero (w : World) : UB (w.alloc (.cells (cellsU zeroU (.pointer none) (.pointer none) (.pointer none)).toArray 116)) w.heap.size 0 zeroU (.pointer none) (.pointer none) (.pointer none) (fun _ => False) (fun _ => False) :=
  ⟨Blk.new w _ _, .inr ⟨rfl, rfl, rfl, rfl⟩, .inr ⟨rfl, rfl, rfl, rfl⟩, okU_zero, fun e => e, fun e => e, fun j e => e.elim⟩
end Go.Proofs.YtknhgfofmkpnfaaGreat.Uart
/- Package uart: its small functions. -/
namespace Go.Proofs.YtknhgfofmkpnfaaGreat.Uart
open Go.RowKit Go.Maps Go.ChangeShapes Go.WideShapes Go.ChangeAt Fifo Orow Word
set_option linter.unusedVariables false

abbrev me (b : Nat) : Value := .pointer (some ⟨b, 0, none⟩)
theorem fput_any (b : Nat) (p : Value) (x lost L : Int) (ok : Bool) (R : World → Prop) (w : World) (hp : Calls Tryz.prog 88 #[p, .int .u8 x] w fun e w' => e = .returned (.bool ok) ∧ R w')
    (hc : ∀ w', R w' → w'.cell? ⟨b, 0, none⟩ = some (.int .u32 L) ∧ w'.frozen? ⟨b, 0, none⟩ = false) :
    Calls Tryz.prog 69 #[me b, p, .int .u8 x, .int .u32 lost] w fun e w' => e = .returned (.bool ok) ∧ ∃ w1, R w1 ∧ w' = (if ok then w1 else w1.setCell ⟨b, 0, none⟩ (.int .u32 (bits .or .u32 L lost))) := by
  have HP := Lib.hid hp
  have HC := Lib.hid hc
  clear hp hc
  go_enter Tryz.func69, Tryz.ntmps69
  go_wp2_with fail
  refine HP.out.mono ?_
  rintro e w1 ⟨rfl, hr⟩
  obtain ⟨c0, f0⟩ := HC.out w1 hr
  have HR := Lib.hid hr
  clear hr HP HC
  cases ok
  · go_wp2_with fail
    go_ret
    exact ⟨rfl, w1, HR.out, by simp⟩
  · go_wp2_with fail
    go_ret
    first | exact ⟨rfl, HR.out⟩ | exact ⟨rfl, w1, HR.out, by simp⟩
theorem has_core (b : Nat) (L lost r : Int) (w : World) (h : w.cell? ⟨b, 0, none⟩ = some (.int .u32 L)) (hr : bits .and .u32 L lost = r) :
    Calls Tryz.prog 154 #[me b, .int .u32 lost] w fun e w' => e = .returned (.bool (r != 0)) ∧ w' = w := by
  go_enter Tryz.func154, Tryz.ntmps154
  go_wp2_with fail
  go_ret
  exact ⟨rfl, rfl⟩
theorem has_in (b : Nat) (u : Un) (w : World) (h : w.cell? ⟨b, 0, none⟩ = some (.int .u32 (lostU u))) :
    Calls Tryz.prog 154 #[me b, .int .u32 65536] w fun e w' => e = .returned (.bool u.LI) ∧ w' = w := by
  have e : (bits .and .u32 (lostU u) 65536 != 0) = u.LI := by
    unfold lostU
    cases u.LI <;> cases u.LO <;> decide
  rw [← e]
  exact has_core b _ _ _ w h rfl
theorem has_out (b : Nat) (u : Un) (w : World) (h : w.cell? ⟨b, 0, none⟩ = some (.int .u32 (lostU u))) :
    Calls Tryz.prog 154 #[me b, .int .u32 131072] w fun e w' => e = .returned (.bool u.LO) ∧ w' = w := by
  have e : (bits .and .u32 (lostU u) 131072 != 0) = u.LO := by
    unfold lostU
    cases u.LI <;> cases u.LO <;> decide
  rw [← e]
  exact has_core b _ _ _ w h rfl
theorem or_in (u : Un) : bits .or .u32 (lostU u) 65536 = lostU { u with LI := true } :=
  (by decide : ∀ x y : Bool, bits .or .u32 ((if x then 65536 else 0) + (if y then 131072 else 0)) 65536 = (if true then 65536 else 0) + (if y then 131072 else 0)) u.LI u.LO
theorem or_out (u : Un) : bits .or .u32 (lostU u) 131072 = lostU { u with LO := true } :=
  (by decide : ∀ x y : Bool, bits .or .u32 ((if x then 65536 else 0) + (if y then 131072 else 0)) 131072 = (if x then 65536 else 0) + (if true then 131072 else 0)) u.LI u.LO
theorem lostU_b (u : Un) : 0 ≤ lostU u ∧ lostU u ≤ 196608 := by
  unfold lostU
  cases u.LI <;> cases u.LO <;> decide

/-- What comes, where there are so many places. -/
def inputR (room : Nat) (u : Un) (b : Int) : Bool × Un := if u.Came.length < room then (true, { u with Came := u.Came ++ [b] }) else (false, { u with LI := true })
def sendR (room : Nat) (u : Un) (v : Int) : Un := if u.Goes.length < room then { u with Goes := u.Goes ++ [v % 256] } else { u with LO := true }
theorem okU_came {u : Un} (h : OkU u) {l : List Int} (h1 : OkB l) (h2 : l.length ≤ 8) : OkU { u with Came := l } := ⟨⟨h1, h2⟩, h.goes, h.c, h.p⟩
theorem okU_goes {u : Un} (h : OkU u) {l : List Int} (h1 : OkB l) (h2 : l.length ≤ 8) : OkU { u with Goes := l } := ⟨h.came, ⟨h1, h2⟩, h.c, h.p⟩
/-- The blocks of a uart, once a row of its has turned. -/
theorem own_came {O A A' B : Nat → Prop} {b n : Nat} (e : ∀ j, O j ↔ (j = b ∨ A j ∨ B j)) (h : ∀ j, A' j → A j ∨ n ≤ j) : ∀ j, (j = b ∨ A' j ∨ B j) → O j ∨ n ≤ j := fun j hj => by
  rcases hj with rfl | hj | hj
  · exact .inl ((e _).2 (.inl rfl))
  · exact (h j hj).imp (fun k => (e j).2 (.inr (.inl k))) id
  · exact .inl ((e j).2 (.inr (.inr hj)))
theorem own_goes {O A B B' : Nat → Prop} {b n : Nat} (e : ∀ j, O j ↔ (j = b ∨ A j ∨ B j)) (h : ∀ j, B' j → B j ∨ n ≤ j) : ∀ j, (j = b ∨ A j ∨ B' j) → O j ∨ n ≤ j := fun j hj => by
  rcases hj with rfl | hj | hj
  · exact .inl ((e _).2 (.inl rfl))
  · exact .inl ((e j).2 (.inr (.inl hj)))
  · exact (h j hj).imp (fun k => (e j).2 (.inr (.inr k))) id
/-- The byte that comes is put. -/
theorem put_came (b room : Nat) (u : Un) (x : Value) (p q : Value) (A B O : Nat → Prop) (v : Int) (w : World) (hv : 0 ≤ v ∧ v < 256) (h8 : room ≤ 8) (h : UB w b room u p q x A B) (e : ∀ j, O j ↔ (j = b ∨ A j ∨ B j)) :
    Calls Tryz.prog 69 #[me b, p, .int .u8 v, .int .u32 65536] w fun r w' => r = .returned (.bool (inputR room u v).1) ∧ ∃ O', UW w' b room (inputR room u v).2 x O' ∧ Only O w w' ∧ ∀ j, O' j → O j ∨ w.heap.size ≤ j := by
  have hl := h.came.le
  have hO : ∀ j, A j → O j := fun j hj => (e j).2 (.inr (.inl hj))
  unfold inputR
  by_cases hlt : u.Came.length < room
  · rw [if_pos hlt]
    have hok := okU_came h.ok (okB_snoc h.ok.came.1 hv) (by rw [List.length_append, List.length_singleton]; omega)
    refine (fput_any b p v 65536 (lostU u) true _ w (h.came.put (by omega) v true _ (decide_eq_true hlt) rfl) ?_).mono ?_
    · rintro w' ⟨A', h1, h2, h3⟩
      have hb := h.blk.only h2 h.na
      exact ⟨hb.at 0 rfl, hb.frozen 0⟩
    · rintro r w' ⟨rfl, w1, ⟨A', h1, h2, h3⟩, rfl⟩
      exact ⟨rfl, _, ⟨p, q, A', B, h.toCame (u' := { u with Came := u.Came ++ [v] }) h1 h2 h3 hok rfl rfl rfl rfl, fun j => Iff.rfl⟩, h2.mono (fun j _ k => hO j k), own_came e h3⟩
  · rw [if_neg hlt]
    refine (fput_any b p v 65536 (lostU u) false _ w (h.came.put (by omega) v false _ (decide_eq_false hlt) rfl) ?_).mono ?_
    · rintro w' ⟨A', h1, h2, h3⟩
      have hb := h.blk.only h2 h.na
      exact ⟨hb.at 0 rfl, hb.frozen 0⟩
    · rintro r w' ⟨rfl, w1, ⟨A', h1, h2, h3⟩, rfl⟩
      have hu := (h.toCame (u' := u) h1 h2 h3 h.ok rfl rfl rfl rfl).toCell (u' := { u with LI := true }) 0 (.int .u32 (bits .or .u32 (lostU u) 65536)) (by rw [or_in]; rfl) ⟨h.ok.came, h.ok.goes, h.ok.c, h.ok.p⟩ rfl rfl
      exact ⟨rfl, _, ⟨p, q, A', B, hu, fun j => Iff.rfl⟩, (h2.mono (fun j _ k => hO j k)).setCell (p := ⟨b, 0, none⟩) ((e b).2 (.inl rfl)) _, own_came e h3⟩
theorem put_goes (b room : Nat) (u : Un) (x : Value) (p q : Value) (A B O : Nat → Prop) (v : Int) (w : World) (h8 : room ≤ 8) (h : UB w b room u p q x A B) (e : ∀ j, O j ↔ (j = b ∨ A j ∨ B j)) :
    Calls Tryz.prog 69 #[me b, q, .int .u8 (v % 256), .int .u32 131072] w fun r w' => (∃ t, r = .returned t) ∧ ∃ O', UW w' b room (sendR room u v) x O' ∧ Only O w w' ∧ ∀ j, O' j → O j ∨ w.heap.size ≤ j := by
  have hl := h.goes.le
  have hO : ∀ j, B j → O j := fun j hj => (e j).2 (.inr (.inr hj))
  unfold sendR
  by_cases hlt : u.Goes.length < room
  · rw [if_pos hlt]
    have hok := okU_goes h.ok (okB_snoc h.ok.goes.1 (b := v % 256) (by omega)) (by rw [List.length_append, List.length_singleton]; omega)
    refine (fput_any b q (v % 256) 131072 (lostU u) true _ w (h.goes.put (by omega) (v % 256) true _ (decide_eq_true hlt) rfl) ?_).mono ?_
    · rintro w' ⟨A', h1, h2, h3⟩
      have hb := h.blk.only h2 h.nb
      exact ⟨hb.at 0 rfl, hb.frozen 0⟩
    · rintro r w' ⟨rfl, w1, ⟨A', h1, h2, h3⟩, rfl⟩
      exact ⟨⟨_, rfl⟩, _, ⟨p, q, A, A', h.toGoes (u' := { u with Goes := u.Goes ++ [v % 256] }) h1 h2 h3 hok rfl rfl rfl rfl, fun j => Iff.rfl⟩, h2.mono (fun j _ k => hO j k), own_goes e h3⟩
  · rw [if_neg hlt]
    refine (fput_any b q (v % 256) 131072 (lostU u) false _ w (h.goes.put (by omega) (v % 256) false _ (decide_eq_false hlt) rfl) ?_).mono ?_
    · rintro w' ⟨A', h1, h2, h3⟩
      have hb := h.blk.only h2 h.nb
      exact ⟨hb.at 0 rfl, hb.frozen 0⟩
    · rintro r w' ⟨rfl, w1, ⟨A', h1, h2, h3⟩, rfl⟩
      have hu := (h.toGoes (u' := u) h1 h2 h3 h.ok rfl rfl rfl rfl).toCell (u' := { u with LO := true }) 0 (.int .u32 (bits .or .u32 (lostU u) 131072)) (by rw [or_out]; rfl) ⟨h.ok.came, h.ok.goes, h.ok.c, h.ok.p⟩ rfl rfl
      exact ⟨⟨_, rfl⟩, _, ⟨p, q, A, A', hu, fun j => Iff.rfl⟩, (h2.mono (fun j _ k => hO j k)).setCell (p := ⟨b, 0, none⟩) ((e b).2 (.inl rfl)) _, own_goes e h3⟩

theorem take_any (b room : Nat) (u : Un) (x : Value) (O : Nat → Prop) (w : World) (h : UW w b room u x O) :
    Calls Tryz.prog 136 #[me b] w fun r w' => r = .returned (.int .u32 (readU u 0).1) ∧ ∃ O', UW w' b room (readU u 0).2 x O' ∧ Only O w w' ∧ ∀ j, O' j → O j ∨ w.heap.size ≤ j := by
  obtain ⟨p, q, A, B, h, e⟩ := h
  have c2 : w.cell? ⟨b, 2, none⟩ = some p := h.blk.at 2 rfl
  have T := Lib.hid h.came.take
  have hok := okU_read h.ok 0
  have hO : ∀ j, A j → O j := fun j hj => (e j).2 (.inr (.inl hj))
  obtain ⟨Cm, Gs, LI, LO, C, P⟩ := u
  cases Cm with
  | nil =>
    have R := Lib.hid (fun w' (h1 : Rw w' p room [] A) (h2 : Only A w w') => show ∃ O', UW w' b room (⟨[], Gs, LI, LO, C, P⟩ : Un) x O' ∧ Only O w w' ∧ ∀ j, O' j → O j ∨ w.heap.size ≤ j from
      ⟨_, ⟨p, q, A, B, h.toCame (u' := ⟨[], Gs, LI, LO, C, P⟩) h1 h2 (fun j hj => .inl hj) h.ok rfl rfl rfl rfl, fun j => Iff.rfl⟩, h2.mono (fun j _ k => hO j k), own_came e (fun j hj => .inl hj)⟩)
    simp only [fstB, List.headD_nil, List.isEmpty_nil, Bool.not_true, List.tail_nil] at T
    clear h hok
    go_enter Tryz.func136, Tryz.ntmps136
    go_wp2_with fail
    refine T.out.mono ?_
    rintro e w1 ⟨rfl, h1, h2⟩
    have R1 := Lib.hid (R.out w1 h1 h2)
    clear h1 h2 c2
    go_wp2_with fail
    go_ret
    exact ⟨rfl, R1.out⟩
  | cons y t =>
    have R := Lib.hid (fun w' (h1 : Rw w' p room t A) (h2 : Only A w w') => show ∃ O', UW w' b room (⟨t, Gs, LI, LO, C, P⟩ : Un) x O' ∧ Only O w w' ∧ ∀ j, O' j → O j ∨ w.heap.size ≤ j from
      ⟨_, ⟨p, q, A, B, h.toCame (u' := ⟨t, Gs, LI, LO, C, P⟩) h1 h2 (fun j hj => .inl hj) hok rfl rfl rfl rfl, fun j => Iff.rfl⟩, h2.mono (fun j _ k => hO j k), own_came e (fun j hj => .inl hj)⟩)
    have hy := h.ok.came.1 y List.mem_cons_self
    have w1 : IntKind.u32.wrap y = y := IntWalk.u32_in _ (by omega)
    have w2 : IntKind.u32.wrap (256 + y) = 256 + y := IntWalk.u32_in _ (by omega)
    simp only [fstB, List.headD_cons, List.isEmpty_cons, Bool.not_false, List.tail_cons] at T
    clear h hok hy
    go_enter Tryz.func136, Tryz.ntmps136
    go_wp2_with fail
    refine T.out.mono ?_
    rintro e w1 ⟨rfl, h1, h2⟩
    have R1 := Lib.hid (R.out w1 h1 h2)
    clear h1 h2 c2
    go_wp2_with fail
    go_ret
    exact ⟨rfl, R1.out⟩
theorem ctrlNow_any (b room : Nat) (u : Un) (x : Value) (O : Nat → Prop) (w : World) (h : UW w b room u x O) :
    Calls Tryz.prog 138 #[me b] w fun r w' => r = .returned (.int .u32 u.C) ∧ w = w' := by
  obtain ⟨p, q, A, B, h, e⟩ := h
  have c1 : w.cell? ⟨b, 1, none⟩ = some (.int .u32 u.C) := h.blk.at 1 rfl
  clear h e
  go_enter Tryz.func138, Tryz.ntmps138
  go_wp2_with fail
  go_ret
  exact ⟨rfl, rfl⟩
set_option maxHeartbeats 1000000 in
theorem counts_any (b room : Nat) (u : Un) (x : Value) (O : Nat → Prop) (w : World) (h : UW w b room u x O) :
    Calls Tryz.prog 137 #[me b] w fun r w' => r = .returned (.int .u32 (flagsU u)) ∧ Below w.heap.size w w' := by
  obtain ⟨p, q, A, B, h, e⟩ := h
  have L1 := Lib.hid (fun W' (hb : Below w.heap.size w W') => (h.came.keep hb).len)
  have L2 := Lib.hid (fun W' (hb : Below w.heap.size w W') => (h.goes.keep hb).len)
  have c0 : w.cell? ⟨b, 0, none⟩ = some (.int .u32 (lostU u)) := h.blk.at 0 rfl
  have c2 : w.cell? ⟨b, 2, none⟩ = some p := h.blk.at 2 rfl
  have c3 : w.cell? ⟨b, 3, none⟩ = some q := h.blk.at 3 rfl
  have hl := lostU_b u
  have h1 := h.ok.came.2
  have h2 := h.ok.goes.2
  have hf : flagsU u = (u.Came.length : Int) + 256 * u.Goes.length + lostU u := by unfold flagsU lostU; omega
  rw [hf]
  obtain ⟨m, hm⟩ : ∃ m, u.Came.length = m := ⟨_, rfl⟩
  obtain ⟨n, hn⟩ : ∃ n, u.Goes.length = n := ⟨_, rfl⟩
  obtain ⟨l, hL⟩ : ∃ l, lostU u = l := ⟨_, rfl⟩
  rw [hm] at L1 h1
  rw [hn] at L2 h2
  rw [hL] at c0 hl
  rw [hm, hn, hL]
  have a1 : IntKind.u32.wrap (m : Int) = m := IntWalk.u32_in _ (by omega)
  have a2 : IntKind.u32.wrap (n : Int) = n := IntWalk.u32_in _ (by omega)
  have a3 : IntKind.u32.wrap (256 * (n : Int)) = 256 * n := IntWalk.u32_in _ (by omega)
  have a4 : IntKind.u32.wrap ((m : Int) + 256 * n) = m + 256 * n := IntWalk.u32_in _ (by omega)
  have a5 : IntKind.u32.wrap ((m : Int) + 256 * n + l) = m + 256 * n + l := IntWalk.u32_in _ (by omega)
  clear h e hm hn hL hl h1 h2 hf
  go_enter Tryz.func137, Tryz.ntmps137
  go_wp2_with fail
  refine wp_region_ext (by kernel_rfl) (by kernel_rfl) ?_
  intro Y hY
  obtain rfl : Y = w := hY.out
  clear hY
  have y0 := ext_cell c0
  have y2 := ext_cell c2
  have y3 := ext_cell c3
  have hEx := Lib.hid (fun q => ext_below Y q)
  repeat (go_big_quiet_step ((first
    | (go_at_call 142; with_reducible exact ext_of (L1.out _ (hEx.out _)))
    | (go_at_call 142; with_reducible exact ext_of (L2.out _ (hEx.out _))))))
  refine wpQuiet_nil ?_
  intro w9 hw9
  obtain ⟨q9, rfl⟩ := hw9
  clear y0 y2 y3
  go_wp2_with fail
  go_ret
  exact ⟨rfl, hEx.out _⟩
theorem send_any (b room : Nat) (u : Un) (x : Value) (O : Nat → Prop) (v : Int) (w : World) (h8 : room ≤ 8) (hv : 0 ≤ v ∧ v < 4294967296) (h : UW w b room u x O) :
    Calls Tryz.prog 139 #[me b, .int .u32 v] w fun r w' => r = .returned (.tuple #[]) ∧ ∃ O', UW w' b room (sendR room u v) x O' ∧ Only O w w' ∧ ∀ j, O' j → O j ∨ w.heap.size ≤ j := by
  obtain ⟨p, q, A, B, h, e⟩ := h
  have c3 : w.cell? ⟨b, 3, none⟩ = some q := h.blk.at 3 rfl
  have T := Lib.hid (put_goes b room u x p q A B O v w.drew h8 (h.keep (Below.refl _ _).drew) e)
  have w1 : IntKind.u8.wrap v = v % 256 := by first | rfl | (unfold IntKind.wrap; simp; omega) | exact IntWalk.u8_wrap _
  obtain ⟨z, hz⟩ : ∃ z, v % 256 = z := ⟨_, rfl⟩
  rw [hz] at w1 T
  clear h e hz hv
  go_enter Tryz.func139, Tryz.ntmps139
  go_wp2_with fail
  go_region_with ((first | (go_at_call 69; with_reducible refine T.out.mono ?_; rintro e w1 ⟨⟨t, rfl⟩, hr⟩; have R := Lib.hid hr)))
  all_goals
    obtain ⟨O', k1, k2, k3⟩ := R.out
    have R2 := Lib.hid (show ∃ O', UW w1 b room (sendR room u v) x O' ∧ Only O w w1 ∧ ∀ j, O' j → O j ∨ w.heap.size ≤ j from ⟨O', k1, (Only.of_below (Below.refl w.heap.size w).drew).trans k2, k3⟩)
    go_wp2_with fail
    go_end0
    exact ⟨rfl, R2.out⟩
theorem and_1 {v : Int} (h : 0 ≤ v ∧ v < 4294967296) : bits .and .u32 v 1 = v % 2 := by
  obtain ⟨x, rfl⟩ := Int.eq_ofNat_of_zero_le h.1
  rw [show (1 : Int) = ((1 : Nat) : Int) from rfl, u32_and_nat x 1 (by omega) (by omega), show (1 : Nat) = 2 ^ 1 - 1 from rfl, Nat.and_two_pow_sub_one_eq_mod]
  rfl
theorem setCtrl_any (b room : Nat) (u : Un) (x : Value) (O : Nat → Prop) (v : Int) (w : World) (hv : 0 ≤ v ∧ v < 4294967296) (h : UW w b room u x O) :
    Calls Tryz.prog 140 #[me b, .int .u32 v] w fun r w' => r = .returned (.tuple #[]) ∧ ∃ O', UW w' b room (writeU u 2 v) x O' ∧ Only O w w' ∧ ∀ j, O' j → O j ∨ w.heap.size ≤ j := by
  obtain ⟨p, q, A, B, h, e⟩ := h
  have c1 : w.cell? ⟨b, 1, none⟩ = some (.int .u32 u.C) := h.blk.at 1 rfl
  have f1 := h.blk.frozen 1
  have hv1 := and_1 hv
  have T := Lib.hid (show ∃ O', UW (w.setCell ⟨b, 1, none⟩ (.int .u32 (v % 2))) b room (writeU u 2 v) x O' ∧ Only O w (w.setCell ⟨b, 1, none⟩ (.int .u32 (v % 2))) ∧ ∀ j, O' j → O j ∨ w.heap.size ≤ j from
    ⟨O, ⟨p, q, A, B, h.toCell (u' := writeU u 2 v) 1 (.int .u32 (v % 2)) rfl (okU_write h.ok 2 v) rfl rfl, e⟩, (Only.refl O w).setCell (p := ⟨b, 1, none⟩) ((e b).2 (.inl rfl)) _, fun j hj => .inl hj⟩)
  clear h e hv
  go_enter Tryz.func140, Tryz.ntmps140
  go_wp2_with fail
  go_end0
  exact ⟨rfl, by first | exact T.out | (rw [hv1]; exact T.out)⟩
theorem forgetLost_any (b room : Nat) (u : Un) (x : Value) (O : Nat → Prop) (v : Int) (w : World) (hv : 0 ≤ v ∧ v < 4294967296) (h : UW w b room u x O) :
    Calls Tryz.prog 141 #[me b, .int .u32 v] w fun r w' => r = .returned (.tuple #[]) ∧ ∃ O', UW w' b room (writeU u 3 v) x O' ∧ Only O w w' ∧ ∀ j, O' j → O j ∨ w.heap.size ≤ j := by
  obtain ⟨p, q, A, B, h, e⟩ := h
  have c0 : w.cell? ⟨b, 0, none⟩ = some (.int .u32 (lostU u)) := h.blk.at 0 rfl
  have f0 := h.blk.frozen 0
  have T := Lib.hid (show ∃ O', UW (w.setCell ⟨b, 0, none⟩ (.int .u32 0)) b room (writeU u 3 v) x O' ∧ Only O w (w.setCell ⟨b, 0, none⟩ (.int .u32 0)) ∧ ∀ j, O' j → O j ∨ w.heap.size ≤ j from
    ⟨O, ⟨p, q, A, B, h.toCell (u' := writeU u 3 v) 0 (.int .u32 0) rfl (okU_write h.ok 3 v) rfl rfl, e⟩, (Only.refl O w).setCell (p := ⟨b, 0, none⟩) ((e b).2 (.inl rfl)) _, fun j hj => .inl hj⟩)
  clear h e hv
  go_enter Tryz.func141, Tryz.ntmps141
  go_wp2_with fail
  go_end0
  exact ⟨rfl, T.out⟩
end Go.Proofs.YtknhgfofmkpnfaaGreat.Uart
/- Package uart: is, uart, laid, New, listed. -/
namespace Go.Proofs.YtknhgfofmkpnfaaGreat.Uart
open Go.RowKit Go.Maps Go.ChangeShapes Go.WideShapes Go.ChangeAt Fifo Orow Word
set_option linter.unusedVariables false
attribute [local go_sem] Oper.semAt_some

theorem uart_info : (Tryz.prog.info? 116).isSome = true := by kernel_rfl
theorem eq_own (a : Addr) (w : World) : (binOp .eql 69 (.pointer (some a)) (.pointer (some a))).run Tryz.prog w = .ok (.bool true) w := by
  obtain ⟨j, hj⟩ := Option.isSome_iff_exists.1 uart_info
  exact run_eql_ptr_same w a Tryz.underlying69 hj
theorem eq_nil (a : Addr) (w : World) : (binOp .eql 69 (.pointer none) (.pointer (some a))).run Tryz.prog w = .ok (.bool false) w := by
  have h : ∀ d : Nat, (Op.equalIn (d + 1) 69 (.pointer none) (.pointer (some a))).run Tryz.prog w = .ok false w := fun d => by
    simp [Op.equalIn, run_underlying Tryz.underlying69]
  simp only [binOp]
  simp [Op.equal, Op.maxDepth, h 9999]
theorem is_yes (b : Nat) (w : World) (h : w.cell? ⟨b, 5, none⟩ = some (me b)) :
    Calls Tryz.prog 77 #[me b] w fun e w' => e = .returned (.bool true) ∧ w = w' := by
  have he := eq_own ⟨b, 0, none⟩ w
  go_enter Tryz.func77, Tryz.ntmps77
  go_wp2_with fail
  go_ret
  exact ⟨rfl, rfl⟩
/-- No uart: none at all, or one that was not answered. -/
def zeroCells : Array Value := (cellsU zeroU (.pointer none) (.pointer none) (.pointer none)).toArray
def ZeroAt (w : World) (b : Nat) : Prop := Blk w b 116 (cellsU zeroU (.pointer none) (.pointer none) (.pointer none))
theorem zero_new (w : World) : ZeroAt (w.alloc (.cells zeroCells 116)) w.heap.size := Blk.new w _ _
theorem ZeroAt.keep {w w' : World} {b : Nat} (h : ZeroAt w b) (hb : Below w.heap.size w w') : ZeroAt w' b := Blk.keep h hb
def Non (w : World) (v : Value) : Prop := v = .pointer none ∨ ∃ b, v = .pointer (some ⟨b, 0, none⟩) ∧ ZeroAt w b
theorem Non.keep {w w' : World} {v : Value} (h : Non w v) (hb : Below w.heap.size w w') : Non w' v := by
  rcases h with rfl | ⟨b, rfl, h⟩
  · exact .inl rfl
  · exact .inr ⟨b, rfl, h.keep hb⟩
theorem is_non (v : Value) (w : World) (h : Non w v) :
    Calls Tryz.prog 77 #[v] w fun e w' => e = .returned (.bool false) ∧ w = w' := by
  rcases h with rfl | ⟨b, rfl, h⟩
  · go_enter Tryz.func77, Tryz.ntmps77
    go_wp2_with fail
    go_ret
    exact ⟨rfl, rfl⟩
  · have c1 : w.cell? ⟨b, 5, none⟩ = some (.pointer none) := Blk.at h 5 rfl
    have he := eq_nil ⟨b, 0, none⟩ w
    clear h
    go_enter Tryz.func77, Tryz.ntmps77
    go_wp2_with fail
    go_ret
    exact ⟨rfl, rfl⟩
theorem uart_yes (b : Nat) (w : World) (h : w.cell? ⟨b, 5, none⟩ = some (me b)) :
    Calls Tryz.prog 54 #[me b] w fun e w' => e = .returned (me b) ∧ w = w' := by
  have H := Lib.hid (is_yes b w h)
  clear h
  go_enter Tryz.func54, Tryz.ntmps54
  go_wp2_with fail
  refine H.out.mono ?_
  rintro e w1 ⟨rfl, rfl⟩
  go_wp2_with fail
  go_ret
  exact ⟨rfl, rfl⟩
/-- One without rows that nobody has: its block is new. -/
theorem uart_non (v : Value) (w : World) (h : Non w v) :
    Calls Tryz.prog 54 #[v] w fun e w' => e = .returned (me w.heap.size) ∧ UB w' w.heap.size 0 zeroU (.pointer none) (.pointer none) (.pointer none) (fun _ => False) (fun _ => False) ∧ Below w.heap.size w w' := by
  have H := Lib.hid (is_non v w h)
  clear h
  go_enter Tryz.func54, Tryz.ntmps54
  go_wp2_with fail
  refine H.out.mono ?_
  rintro e w1 ⟨rfl, rfl⟩
  go_wp2_with fail
  go_ret
  exact ⟨rfl, UB.zero w, (Below.refl _ _).alloc (Nat.le_refl _) _⟩
theorem laid_any (u : Un) (p q x : Value) (w : World) :
    Calls Tryz.prog 63 #[.agg #[.int .u32 (lostU u), .int .u32 u.C, p, q, .int .i64 u.P, x]] w fun e w' => (∃ c, e = .returned (me c) ∧ Blk w' c 116 (cellsU u p q (me c)) ∧ w.heap.size ≤ c) ∧ Below w.heap.size w w' := by
  obtain ⟨L, hL⟩ : ∃ L, lostU u = L := ⟨_, rfl⟩
  obtain ⟨Cm, Gs, LI, LO, C, P⟩ := u
  unfold cellsU
  rw [hL]
  clear hL
  go_enter Tryz.func63, Tryz.ntmps63
  go_wp2_with fail
  go_ret
  exact ⟨⟨_, rfl, Blk.new w _ _, Nat.le_refl _⟩, (Below.refl w.heap.size w).alloc (Nat.le_refl _) _⟩
theorem New_any0 (w : World) :
    Calls Tryz.prog 40 #[] w fun e w' => (∃ b O, e = .returned (me b) ∧ UW w' b 8 zeroU (me b) O ∧ ∀ j, O j → w.heap.size ≤ j) ∧ Below w.heap.size w w' := by
  go_enter Tryz.func40, Tryz.ntmps40
  go_wp2_with fail
  refine (FB.New_st 8 w (by omega)).mono ?_
  rintro e w1 ⟨b1, O1, rfl, h1, n1, k1⟩
  have S1 := Lib.hid h1
  have N1 := Lib.hid n1
  have B1 := Lib.hid k1
  clear h1 n1 k1
  go_wp2_with fail
  refine (FB.New_st 8 w1 (by omega)).mono ?_
  rintro e w2 ⟨b2, O2, rfl, h2, n2, k2⟩
  have S2 := Lib.hid (S1.out.keep k2)
  have S3 := Lib.hid h2
  have N2 := Lib.hid n2
  have B2 := Lib.hid (B1.out.trans (k2.mono B1.out.size))
  have L1 := S1.out.lt
  have HL := Lib.hid (fun j hj hk => by have := L1 j hj; have := N2.out j hk; omega : ∀ j, O1 j → ¬ O2 j)
  clear h2 n2 k2 S1 L1
  go_wp2_with fail
  refine (laid_any zeroU (me b1) (me b2) (.pointer none) w2).mono ?_
  rintro e w3 ⟨⟨c, rfl, hc, hn⟩, k3⟩
  have hl1 := S2.out.lt
  have hl2 := S3.out.lt
  have hs := B1.out.size
  have R := Lib.hid (show UB w3 c 8 zeroU (me b1) (me b2) (me c) O1 O2 from ⟨hc, .inl ⟨b1, rfl, S2.out.keep k3⟩, .inl ⟨b2, rfl, S3.out.keep k3⟩, okU_zero, fun e => by have := hl1 c e; omega, fun e => by have := hl2 c e; omega, HL.out⟩)
  have B3 := Lib.hid (B2.out.trans (k3.mono B2.out.size))
  have hs2 := B2.out.size
  have hN : ∀ j, (j = c ∨ O1 j ∨ O2 j) → w.heap.size ≤ j := fun j hj => by
    rcases hj with rfl | hj | hj
    · omega
    · exact N1.out j hj
    · have := N2.out j hj; omega
  clear hc hn k3 hl1 hl2 hs hs2
  go_wp2_with fail
  go_ret
  exact ⟨⟨c, _, rfl, ⟨_, _, _, _, R.out, fun j => Iff.rfl⟩, hN⟩, B3.out⟩
theorem info_b : (Tryz.prog.info? 5).map (fun i => (i.zero, i.size, i.bytes)) = some (some (.int .u8 0), 1, 1) := by kernel_rfl
theorem okb_keep {w w' : World} {B n sz : Nat} {e : TypeId} {v : Value} {L : List Value} (h : w.ownsRow B e sz v n L) {C : Nat} (hk : Book C w w') : w'.ownsRow B e sz v n L := by
  refine ⟨h.1, ?_⟩
  rcases h.2 with h2 | ⟨g, cap, cur, h1, h2, h3, r⟩
  · exact .inl h2
  · exact .inr ⟨g, cap, cur, h1, h2, hk.cells g _ h3 rfl, r⟩
/-- A round that appends to a row whose slice lies in a block of its own. -/
theorem step_grow {k : Nat} {w W w5 : World} {t e : TypeId} {v v' : Value} {L L' : List Value} {o : Obj} {C sb : Nat} (hC : C ≤ sb) (h1 : Blk W sb t [v]) (h2 : W.ownsRow (sb + 1) e 1 v k L) (h3 : Below C w W) (r1 : w5.ownsRow (sb + 1) e 1 v' (k + 1) L')
    (r2 : (W.alloc o).grownBy w5 v.ownBlock) (r4 : v'.ownBlock = v.ownBlock ∨ v'.ownBlock = some (W.alloc o).heap.size) :
    ∃ a c, v' = .slice a (k + 1) c ∧ w5.cell? ⟨sb, 0, none⟩ = some v ∧ w5.frozen? ⟨sb, 0, none⟩ = false ∧ Blk (w5.setCell ⟨sb, 0, none⟩ v') sb t [v'] ∧ (w5.setCell ⟨sb, 0, none⟩ v').ownsRow (sb + 1) e 1 v' (k + 1) L' ∧
      Below C w (w5.setCell ⟨sb, 0, none⟩ v') ∧ (∀ j, (j = sb ∨ PB v' j) → (j = sb ∨ PB v j) ∨ W.heap.size ≤ j) ∧ Only (fun j => j = sb ∨ PB v j) W (w5.setCell ⟨sb, 0, none⟩ v') := by
  obtain ⟨a, c, hv, _⟩ := own_shape r1
  have hpv : ∀ j, PB v j → sb + 1 ≤ j := fun j hj => (h2.lt j hj).1
  have hpv' : ∀ j, PB v' j → sb + 1 ≤ j := fun j hj => (r1.lt j hj).1
  have hg : Only (PB v) (W.alloc o) w5 := ⟨r2.os, r2.tape, r2.output, r2.size, fun k hk hn => r2.block k hk (fun e => hn e.symm)⟩
  have ho1 : Only (PB v) W w5 := (Only.of_below ((Below.refl _ W).alloc (Nat.le_refl _) o)).trans hg
  have hB : Blk w5 sb t [v] := h1.only ho1 (fun hj => by have := hpv _ hj; omega)
  have hset := (Only.refl (fun j => j = sb) w5).setCell (p := ⟨sb, 0, none⟩) rfl v'
  subst hv
  refine ⟨a, c, rfl, hB.at 0 rfl, hB.frozen 0, hB.set 0 _, own_only r1 hset (fun j hj e => by have := (own_lt r1 j hj).1; omega), ?_, ?_, (ho1.mono (fun j _ h => .inr h)).trans (hset.mono (fun j _ h => .inl h))⟩
  · exact (h3.trans (ho1.below (by have := h1.lt; omega) (fun j hj => by have := hpv j hj; omega))).setCell (p := ⟨sb, 0, none⟩) hC _
  · rintro j (rfl | hj)
    · exact .inl (.inl rfl)
    · unfold PB at hj ⊢
      rcases r4 with h | h
      · exact .inl (.inr (h ▸ hj))
      · rw [h, World.size_alloc] at hj
        simp only [Option.some.injEq] at hj
        exact .inr (by omega)
set_option maxRecDepth 100000 in
set_option maxHeartbeats 2000000 in
theorem listed_any (p : Value) (room : Nat) (l : List Int) (O : Nat → Prop) (w : World) (h : Rw w p room l O) (h8 : l.length ≤ 8) :
    Calls Tryz.prog 153 #[p] w fun e w' => (∃ a c, e = .returned (.slice a l.length c) ∧ w'.ownsRow w.heap.size 5 1 (.slice a l.length c) l.length (bv l)) ∧ Below w.heap.size w w' := by
  obtain ⟨i0, hi, hz0, hz1, hz2⟩ := info_parts info_b
  have Hi := Lib.hid hi
  have Hz0 := Lib.hid hz0
  have Hz1 := Lib.hid hz1
  have Hz2 := Lib.hid hz2
  clear hi hz0 hz1 hz2
  have hb0 := (Below.refl w.heap.size w).alloc (Nat.le_refl _) (.cells #[.slice none 0 0] 156)
  have HA := Lib.hid (h.keep hb0).all
  have Hlen := Lib.hid h8
  clear h h8
  refine (callsIn_wide (n := 4)).1 ?_
  refine callsIn_of_wp_marks Tryz.func153 rfl trivial ?_ rfl
  simp only [Tryz.ntmps153, List.size_toArray, List.length_cons, List.length_nil, Nat.reduceAdd, Nat.reduceSub, Array.replicate_succ, Array.replicate_zero, List.push_toArray, List.append_toArray, List.nil_append, List.cons_append]
  gi_wp2_with (refine ⟨trivial, ?_⟩; gi_at_call 157; refine (callsIn_wide.2 HA.out).mono ?_; rintro e w1 ⟨box, rfl, hb1, hs⟩; have Hseq := Lib.hid (hs 3 w1 (by omega) (Below.refl _ _)); have Hb1 := Lib.hid hb1; have Hbx := Lib.hid ((Blk.new w 156 [.slice none 0 0]).keep hb1); clear hs hb1)
  have hs1 := Hb1.out.size
  have hs2 : w.heap.size + 1 ≤ w1.heap.size := by simpa using hs1
  have Hbw := Lib.hid (hb0.trans (Hb1.out.mono (by simp)))
  refine range_law rfl (by omega) (gf := 158) (bound := #[]) (lb := #[.pointer (some ⟨box, 0, none⟩)]) rfl trivial (enters_of Tryz.func158 (by kernel_rfl) rfl)
    Hseq.out (fun _ => rfl) (fun j hj => hj.elim)
    (fun k T X => ∃ v, (T = fun j => j = w.heap.size ∨ PB v j) ∧ Blk X w.heap.size 156 [v] ∧ X.ownsRow (w.heap.size + 1) 5 1 v k (bv (l.take k)) ∧ Below w.heap.size w X)
    (fun _ _ _ _ => False) (fun j => j = w.heap.size ∨ PB (.slice none 0 0) j)
    (fun j hj hk => hk)
    (fun j hj => by
      rcases hj with hj | hj
      · omega
      · simp [PB, Value.ownBlock] at hj)
    (fun k T W W' h hk => by
      obtain ⟨v, hT, h1, h2, h3⟩ := h
      exact ⟨v, hT, h1.book hk, okb_keep h2 hk, hk.below h3 (by omega)⟩)
    (fun _ _ _ _ _ h _ => h)
    (fun k T W j h hj => by
      obtain ⟨v, rfl, h1, h2, h3⟩ := h
      rcases hj with rfl | hj
      · exact h1.lt
      · exact (h2.lt j hj).2)
    ⟨.slice none 0 0, rfl, Hbx.out, World.ownsRow_nil _ _ _ _, Hbw.out⟩ ?round ?done ?stop
  case round =>
    intro lp k T W0 hk
    obtain ⟨y, hy⟩ : ∃ y, l[k]? = some y := ⟨_, List.getElem?_eq_getElem hk⟩
    rw [show FB.els (bv l) k = #[.int .i64 (k : Nat), .int .u8 y] by simp [FB.els, bv, hy]]
    have Hk := Lib.hid hk
    have Hy := Lib.hid hy
    clear hk hy
    gi_wp2
    refine ⟨trivial, ?_⟩
    rintro W hsz ⟨v, rfl, h1, h2, h3⟩ hT
    have q1 := h1.at 0 rfl
    have H1 := Lib.hid h1
    have H2 := Lib.hid h2
    have H3 := Lib.hid h3
    obtain ⟨av, cv, hv, _⟩ := own_shape h2
    subst hv
    have hk6 : k ≤ 8 := by have := Hk.out; have := Hlen.out; omega
    clear h1 h2 h3 hT
    gi_wp2_with (gi_at_builtin; refine wpListIn_append_own_at _ rfl _ _ 156 rfl (w.heap.size + 1) 5 i0 (.int .u8 0) 1 1 Tryz.underlying156 Hi.out Hz0.out Hz1.out Hz2.out rfl (by decide) _ _ _ rfl (own_keep H2.out ((Below.refl _ _).alloc (Nat.le_refl _) _)) ⟨W.heap.size, 0, none⟩ 1 1 [.int .u8 y] rfl rfl (cell_one_new _ _ _) (by simp [Value.oneCell']) (by unfold maxLen; omega) (by omega) (by simp; omega) ?_; intro v' w5 r1 r2 _ r4; obtain ⟨a5, c5, hv5, q5, f5, g1, g2, g3, g4, g5⟩ := step_grow (Nat.le_refl _) H1.out H2.out H3.out r1 r2 r4; subst hv5; have G1 := Lib.hid g1; have G2 := Lib.hid g2; have G3 := Lib.hid g3; have G4 := Lib.hid g4; have G5 := Lib.hid g5; clear r1 r2 r4 g1 g2 g3 g4 g5 q1)
    refine ⟨_, G4.out, G5.out, _, rfl, G1.out, ?_, G3.out⟩
    have e : l.take (k + 1) = l.take k ++ [y] := by rw [List.take_add_one, Hy.out]; rfl
    have e2 : bv (l.take (k + 1)) = bv (l.take k) ++ [.int .u8 y] := by rw [e]; simp [bv]
    rw [e2]
    exact G2.out
  case done =>
    rintro T W ⟨v, -, h1, h2, h3⟩ hD
    obtain ⟨av, cv, hv, _⟩ := own_shape h2
    subst hv
    rw [List.take_length] at h2
    have q1 := h1.at 0 rfl
    have H2 := Lib.hid h2
    have H3 := Lib.hid h3
    have HD := Lib.hid hD
    clear h1 h2 h3 hD
    gi_wp2
    have Hk := Lib.hid (Book.put (B := w1.heap.size) (o' := .deferred none) (Nat.le_refl _) HD.out rfl)
    refine ⟨by simp, .inl ⟨_, _, rfl, run_takeDeferred HD.out, ?_⟩⟩
    exact ⟨_, results_tmp rfl _ _ _, ⟨av, cv, rfl, own_mono (okb_keep H2.out Hk.out) (Nat.le_succ _)⟩, Hk.out.below H3.out (by omega)⟩
  case stop =>
    intro c k T W _ h
    exact h.elim
end Go.Proofs.YtknhgfofmkpnfaaGreat.Uart
/- Package uart: State, Copy, the two maps of method values. -/
namespace Go.Proofs.YtknhgfofmkpnfaaGreat.Uart
open Go.RowKit Go.Maps Go.ChangeShapes Go.WideShapes Go.ChangeAt Fifo Orow Word Fmap
set_option linter.unusedVariables false

theorem only_drewU {S : Nat → Prop} {w w' : World} (h : Only S w w') : Only S w w'.drew := ⟨h.os, h.tape, h.output, h.size, h.block⟩
set_option maxRecDepth 100000 in
set_option maxHeartbeats 4000000 in
theorem State_q (v : Value) (room : Nat) (u : Un) (x : Value) (w : World) (ht : ∀ W, Below w.heap.size w W → w.heap.size < W.heap.size → Calls Tryz.prog 54 #[v] W fun r w' => ∃ b p q A B, r = .returned (me b) ∧ UB w' b room u p q x A B ∧ Below W.heap.size W w' ∧ b ≠ w.heap.size ∧ ¬ A w.heap.size ∧ ¬ B w.heap.size) :
    Calls Tryz.prog 149 #[v] w fun r w' => (∃ a1 c1 a2 c2, r = .returned (.agg #[.slice a1 u.Came.length c1, .slice a2 u.Goes.length c2, .bool u.LI, .bool u.LO, .int .u32 u.C, .int .i64 u.P]) ∧ w'.ownsRow w.heap.size 5 1 (.slice a1 u.Came.length c1) u.Came.length (bv u.Came) ∧ w'.ownsRow w.heap.size 5 1 (.slice a2 u.Goes.length c2) u.Goes.length (bv u.Goes) ∧ ∀ j, PB (.slice a1 u.Came.length c1) j → ¬ PB (.slice a2 u.Goes.length c2) j) ∧ Below w.heap.size w w' := by
  have T := Lib.hid (ht (w.alloc (.cells #[.slice none 0 0, .slice none 0 0, .bool false, .bool false, .int .u32 0, .int .i64 0] 225)) ((Below.refl _ _).alloc (Nat.le_refl _) _) (by simp))
  clear ht
  obtain ⟨Cm, Gs, LI, LO, C, P⟩ := u
  obtain ⟨nc, hnc⟩ : ∃ n, Cm.length = n := ⟨_, rfl⟩
  obtain ⟨ng, hng⟩ : ∃ n, Gs.length = n := ⟨_, rfl⟩
  simp only [hnc, hng]
  have Hnc := Lib.hid hnc
  have Hng := Lib.hid hng
  clear hnc hng
  go_enter Tryz.func149, Tryz.ntmps149
  go_wp2_with fail
  refine T.out.mono ?_
  rintro e w1 ⟨b, p, q, A, B, rfl, hu, hb, hbg, hag, hbg2⟩
  have hZ : Blk w1 w.heap.size 225 [.slice none 0 0, .slice none 0 0, .bool false, .bool false, .int .u32 0, .int .i64 0] := (Blk.new w 225 [.slice none 0 0, .slice none 0 0, .bool false, .bool false, .int .u32 0, .int .i64 0]).keep hb
  have hB1 : Below w.heap.size w w1 := ((Below.refl w.heap.size w).alloc (Nat.le_refl _) _).trans (hb.mono (by simp))
  obtain ⟨g, hg⟩ : ∃ g, w.heap.size = g := ⟨_, rfl⟩
  rw [hg] at hbg hag hbg2 hZ
  try rw [hg]
  have hgl := hZ.lt
  have U := Lib.hid hu
  have B1 := Lib.hid hB1
  have HG := Lib.hid hg
  have K := Lib.hid (fun w' (h : Only (fun j => j = g) w1 w') => show UB w' b room ⟨Cm, Gs, LI, LO, C, P⟩ p q x A B from hu.only h hbg (fun j hj e => hag (by have e : j = g := e; rwa [e] at hj)) (fun j hj e => hbg2 (by have e : j = g := e; rwa [e] at hj)))
  obtain ⟨L, hL⟩ : ∃ L, lostU ⟨Cm, Gs, LI, LO, C, P⟩ = L := ⟨_, rfl⟩
  have HL := Lib.hid hL
  have c0 : ∀ w', Only (fun j => j = g) w1 w' → w'.cell? ⟨b, 0, none⟩ = some (.int .u32 (lostU ⟨Cm, Gs, LI, LO, C, P⟩)) := fun w' h => (K.out w' h).blk.at 0 rfl
  have c1 : ∀ w', Only (fun j => j = g) w1 w' → w'.cell? ⟨b, 1, none⟩ = some (.int .u32 C) := fun w' h => (K.out w' h).blk.at 1 rfl
  have c2 : ∀ w', Only (fun j => j = g) w1 w' → w'.cell? ⟨b, 2, none⟩ = some p := fun w' h => (K.out w' h).blk.at 2 rfl
  have c3 : ∀ w', Only (fun j => j = g) w1 w' → w'.cell? ⟨b, 3, none⟩ = some q := fun w' h => (K.out w' h).blk.at 3 rfl
  have c4 : ∀ w', Only (fun j => j = g) w1 w' → w'.cell? ⟨b, 4, none⟩ = some (.int .i64 P) := fun w' h => (K.out w' h).blk.at 4 rfl
  have H1 := Lib.hid (fun w' (h : Only (fun j => j = g) w1 w') => has_in b ⟨Cm, Gs, LI, LO, C, P⟩ w' (c0 w' h))
  have H2 := Lib.hid (fun w' (h : Only (fun j => j = g) w1 w') => has_out b ⟨Cm, Gs, LI, LO, C, P⟩ w' (c0 w' h))
  have ok1 := hu.ok.came.2
  have ok2 := hu.ok.goes.2
  have E1 := Lib.hid (fun w' (h : Only (fun j => j = g) w1 w') => listed_any p room Cm A w' (K.out w' h).came ok1)
  have E2 := Lib.hid (fun w' (h : Only (fun j => j = g) w1 w') => listed_any q room Gs B w' (K.out w' h).goes ok2)
  have S0 : Only (fun j => j = g) w1 w1.drew := Only.of_below (Below.refl _ _).drew
  have Z := Lib.hid (fun w' (h : Below w1.heap.size w1 w') => hZ.keep h)
  simp only [Hnc.out, Hng.out] at E1 E2
  have Z0 := Lib.hid (Below.refl w1.heap.size w1).drew
  clear hu hb hZ hB1 hbg hag hbg2 T c0 hL hg K ok1 ok2
  go_wp2_with fail
  refine wp_region_held_drew (S := fun w' => Only (fun j => j = g) w1 w') (by kernel_rfl) S0 (fun hHeld => ?_)
  refine wpAnyH_take (i := 0) (v := ?_) rfl (by kernel_rfl) (by kernel_rfl) (by kernel_rfl) (fun _ _ _ h => h) (Or.inl ⟨by rfl, ?_⟩) (by assumption) ?_
  rotate_left
  · (intro w hSw; (try dsimp only at hSw); go_simp; try (with_reducible rfl))
  try simp only [Act.put]
  refine wpAnyH_take (i := 1) (v := ?_) rfl (by kernel_rfl) (by kernel_rfl) (by kernel_rfl) (fun _ _ _ h => h) (Or.inl ⟨by rfl, ?_⟩) (by assumption) ?_
  rotate_left
  · (intro w hSw; (try dsimp only at hSw); go_simp; try (with_reducible rfl))
  try simp only [Act.put]
  refine wpAnyH_take (i := 2) (v := ?_) rfl (by kernel_rfl) (by kernel_rfl) (by kernel_rfl) (fun _ _ _ h => h) (Or.inl ⟨by rfl, ?_⟩) (by assumption) ?_
  rotate_left
  · (intro w hSw; (try dsimp only at hSw); go_simp; try (with_reducible rfl))
  try simp only [Act.put]
  refine wpAnyH_take (i := 3) (v := ?_) rfl (by kernel_rfl) (by kernel_rfl) (by kernel_rfl) (fun _ _ _ h => h) (Or.inl ⟨by rfl, ?_⟩) (by assumption) ?_
  rotate_left
  · (intro w hSw; (try dsimp only at hSw); go_simp; try (with_reducible rfl))
  try simp only [Act.put]
  refine wpAnyH_take (i := 5) (v := ?_) rfl (by kernel_rfl) (by kernel_rfl) (by kernel_rfl) (fun _ _ _ h => h) (Or.inl ⟨by rfl, ?_⟩) (by assumption) ?_
  rotate_left
  · (intro w hSw; (try dsimp only at hSw); go_simp; try (with_reducible rfl))
  try simp only [Act.put]
  refine wpAnyH_take (i := 6) (v := ?_) rfl (by kernel_rfl) (by kernel_rfl) (by kernel_rfl) (fun _ _ _ h => h) (Or.inl ⟨by rfl, ?_⟩) (by assumption) ?_
  rotate_left
  · (intro w hSw; (try dsimp only at hSw); go_simp; try (with_reducible rfl))
  try simp only [Act.put]
  refine wpAnyH_take (i := 7) (v := ?_) rfl (by kernel_rfl) (by kernel_rfl) (by kernel_rfl) (fun _ _ _ h => h) (Or.inl ⟨by rfl, ?_⟩) (by assumption) ?_
  rotate_left
  · (intro w hSw; (try dsimp only at hSw); go_simp; try (with_reducible rfl))
  try simp only [Act.put]
  refine wpAnyH_take (i := 8) (v := ?_) rfl (by kernel_rfl) (by kernel_rfl) (by kernel_rfl) (fun _ _ _ h => h) (Or.inl ⟨by rfl, ?_⟩) (by assumption) ?_
  rotate_left
  · (intro w hSw; (try dsimp only at hSw); go_simp; try (with_reducible rfl))
  try simp only [Act.put]
  refine wpAnyH_take (i := 10) (v := ?_) rfl (by kernel_rfl) (by kernel_rfl) (by kernel_rfl) (fun _ _ _ h => h) (Or.inl ⟨by rfl, ?_⟩) (by assumption) ?_
  rotate_left
  · (intro w hSw; (try dsimp only at hSw); go_simp; try (with_reducible rfl))
  try simp only [Act.put]
  refine wpAnyH_take (i := 11) (v := ?_) rfl (by kernel_rfl) (by kernel_rfl) (by kernel_rfl) (fun _ _ _ h => h) (Or.inl ⟨by rfl, ?_⟩) (by assumption) ?_
  rotate_left
  · (intro w hSw; (try dsimp only at hSw); go_simp; try (with_reducible rfl))
  try simp only [Act.put]
  refine wpAnyH_take (i := 12) (v := ?_) rfl (by kernel_rfl) (by kernel_rfl) (by kernel_rfl) (fun _ _ _ h => h) (Or.inl ⟨by rfl, ?_⟩) (by assumption) ?_
  rotate_left
  · (intro w hSw; (try dsimp only at hSw); go_simp; try (with_reducible rfl))
  try simp only [Act.put]
  refine wpAnyH_take (i := 14) (v := ?_) rfl (by kernel_rfl) (by kernel_rfl) (by kernel_rfl) (fun _ _ _ h => h) (Or.inl ⟨by rfl, ?_⟩) (by assumption) ?_
  rotate_left
  · (intro w hSw; (try dsimp only at hSw); go_simp; try (with_reducible rfl))
  try simp only [Act.put]
  refine wpAnyH_take (i := 15) (v := ?_) rfl (by kernel_rfl) (by kernel_rfl) (by kernel_rfl) (fun _ _ _ h => h) (Or.inl ⟨by rfl, ?_⟩) (by assumption) ?_
  rotate_left
  · (intro w hSw; (try dsimp only at hSw); go_simp; try (with_reducible rfl))
  try simp only [Act.put]
  refine wpAnyH_take (i := 16) (v := ?_) rfl (by kernel_rfl) (by kernel_rfl) (by kernel_rfl) (fun _ _ _ h => h) (Or.inl ⟨by rfl, ?_⟩) (by assumption) ?_
  rotate_left
  · (intro w hSw; (try dsimp only at hSw); go_simp; try (with_reducible rfl))
  try simp only [Act.put]
  refine wpAnyH_take (i := 18) (v := ?_) rfl (by kernel_rfl) (by kernel_rfl) (by kernel_rfl) (fun _ _ _ h => h) (Or.inl ⟨by rfl, ?_⟩) (by assumption) ?_
  rotate_left
  · (intro w hSw; (try dsimp only at hSw); go_simp; try (with_reducible rfl))
  try simp only [Act.put]
  refine wpAnyH_take (i := 19) (v := ?_) rfl (by kernel_rfl) (by kernel_rfl) (by kernel_rfl) (fun _ _ _ h => h) (Or.inl ⟨by rfl, ?_⟩) (by assumption) ?_
  rotate_left
  · (intro w hSw; (try dsimp only at hSw); go_simp; try (with_reducible rfl))
  try simp only [Act.put]
  refine wpAnyH_take (i := 20) (v := ?_) rfl (by kernel_rfl) (by kernel_rfl) (by kernel_rfl) (fun _ _ _ h => h) (Or.inl ⟨by rfl, ?_⟩) (by assumption) ?_
  rotate_left
  · (intro w hSw; (try dsimp only at hSw); go_simp; try (with_reducible rfl))
  try simp only [Act.put]
  refine wpAnyH_take (i := 21) (v := ?_) rfl (by kernel_rfl) (by kernel_rfl) (by kernel_rfl) (fun _ _ _ h => h) (Or.inl ⟨by rfl, ?_⟩) (by assumption) ?_
  rotate_left
  · (intro w hSw; (try dsimp only at hSw); go_simp; try (with_reducible rfl))
  try simp only [Act.put]
  refine wpAnyH_take (i := 22) (v := ?_) rfl (by kernel_rfl) (by kernel_rfl) (by kernel_rfl) (fun _ _ _ h => h) (Or.inl ⟨by rfl, ?_⟩) (by assumption) ?_
  rotate_left
  · (intro w hSw; (try dsimp only at hSw); go_simp; try (with_reducible rfl))
  try simp only [Act.put]
  refine wpAnyH_take (i := 23) (v := ?_) rfl (by kernel_rfl) (by kernel_rfl) (by kernel_rfl) (fun _ _ _ h => h) (Or.inl ⟨by rfl, ?_⟩) (by assumption) ?_
  rotate_left
  · (intro w hSw; (try dsimp only at hSw); go_simp; try (with_reducible rfl))
  try simp only [Act.put]
  refine wpAnyH_take (i := 24) (v := ?_) rfl (by kernel_rfl) (by kernel_rfl) (by kernel_rfl) (fun _ _ _ h => h) (Or.inl ⟨by rfl, ?_⟩) (by assumption) ?_
  rotate_left
  · (intro w hSw; (try dsimp only at hSw); go_simp; try (with_reducible rfl))
  try simp only [Act.put]
  refine wpAnyH_take (i := 25) (v := ?_) rfl (by kernel_rfl) (by kernel_rfl) (by kernel_rfl) (fun _ _ _ h => h) (Or.inl ⟨by rfl, ?_⟩) (by assumption) ?_
  rotate_left
  · (intro w hSw; (try dsimp only at hSw); go_simp; try (with_reducible rfl))
  try simp only [Act.put]
  refine wpAnyH_take (i := 26) (v := ?_) rfl (by kernel_rfl) (by kernel_rfl) (by kernel_rfl) (fun _ _ _ h => h) (Or.inl ⟨by rfl, ?_⟩) (by assumption) ?_
  rotate_left
  · (intro w hSw; (try dsimp only at hSw); go_simp; try (with_reducible rfl))
  try simp only [Act.put]
  refine wpAnyH_ready (rs := [4]) (by kernel_rfl) (by simp) ?_
  refine AllReadyH.cons rfl (fun K hK => ?_) AllReadyH.nil
  go_simp
  refine (E1.out _ hHeld).mono ?_
  rintro e w5 ⟨⟨a1, c1', rfl, ho1⟩, hb5⟩
  have R1 := Lib.hid ho1
  have X1 := Lib.hid (Z0.out.trans (hb5.mono Z0.out.size))
  have lt5 := Lib.hid (fun j (hj : PB (.slice a1 nc c1') j) => (ho1.lt j hj).2)
  have hon : Only (fun j => j = g) w1 w5 := Only.of_below X1.out
  clear ho1 hb5
  refine hK.out _ _ hon (fun hHeld => ?_)
  clear hK hon
  try simp only [Act.put]
  refine wpAnyH_ready (rs := [9]) (by kernel_rfl) (by simp) ?_
  refine AllReadyH.cons rfl (fun K hK => ?_) AllReadyH.nil
  go_simp
  refine (E2.out _ hHeld).mono ?_
  rintro e w6 ⟨⟨a2, c2', rfl, ho2⟩, hb6⟩
  have R2 := Lib.hid ho2
  have R3 := Lib.hid (own_keep R1.out hb6)
  have X2 := Lib.hid (X1.out.trans (hb6.mono X1.out.size))
  have hon : Only (fun j => j = g) w1 w6 := Only.of_below X2.out
  clear ho2 hb6
  refine hK.out _ _ hon (fun hHeld => ?_)
  clear hK hon
  try simp only [Act.put]
  refine wpAnyH_ready (rs := [13]) (by kernel_rfl) (by simp) ?_
  refine AllReadyH.cons rfl (fun K hK => ?_) AllReadyH.nil
  go_simp
  refine (H1.out _ hHeld).mono ?_
  rintro e w7 ⟨rfl, rfl⟩
  have hon := hHeld
  refine hK.out _ _ hon (fun hHeld => ?_)
  clear hK hon
  try simp only [Act.put]
  refine wpAnyH_ready (rs := [17]) (by kernel_rfl) (by simp) ?_
  refine AllReadyH.cons rfl (fun K hK => ?_) AllReadyH.nil
  go_simp
  refine (H2.out _ hHeld).mono ?_
  rintro e w8 ⟨rfl, rfl⟩
  have hon := hHeld
  refine hK.out _ _ hon (fun hHeld => ?_)
  clear hK hon
  try simp only [Act.put]
  refine wpAnyH_take (i := 27) (v := ?_) rfl (by kernel_rfl) (by kernel_rfl) (by kernel_rfl) (fun _ _ _ h => h) (Or.inl ⟨by rfl, ?_⟩) (by assumption) ?_
  rotate_left
  · (intro w hSw; (try dsimp only at hSw); go_simp; try (with_reducible rfl))
  try simp only [Act.put]
  refine wpAnyH_ready (rs := [28]) (by kernel_rfl) (by simp) ?_
  refine AllReadyH.cons rfl (fun K hK => ?_) AllReadyH.nil
  rw [if_pos (by rfl)]
  refine oper_store _ _ _ rfl g 0 [.slice a1 nc c1', .slice a2 ng c2', .bool LI, .bool LO, .int .u32 C, .int .i64 P] rfl rfl 225 _ (Z.out _ X2.out) (by kernel_rfl) (by simp) (by simp [Value.oneCell']) ?_
  intro Y hY hoY
  have R := Lib.hid (show Blk Y g 225 [.slice a1 nc c1', .slice a2 ng c2', .bool LI, .bool LO, .int .u32 C, .int .i64 P] from hY)
  have hon : Only (fun j => j = g) w1 Y := (Only.of_below X2.out).trans hoY
  have hd : w1.drew.heap.size = w1.heap.size := rfl
  have hx1 := X1.out.size
  have ROW1 := Lib.hid (own_only R3.out hoY (fun j hj e => by have := (own_lt R3.out j hj).1; have e : j = g := e; omega))
  have ROW2 := Lib.hid (own_only R2.out hoY (fun j hj e => by have := (own_lt R2.out j hj).1; have e : j = g := e; omega))
  have ROW3 := Lib.hid (show ∀ j, PB (.slice a1 nc c1') j → ¬ PB (.slice a2 ng c2') j from fun j h1 h2 => by have := lt5.out j h1; have := (R2.out.lt j h2).1; omega)
  have O := Lib.hid (show Below w.heap.size w Y from B1.out.trans (hon.below (by rw [HG.out]; omega) (fun k e => by have e : k = g := e; rw [HG.out]; omega)))
  clear hY hoY hd hx1
  refine hK.out _ _ hon (fun hHeld => ?_)
  clear hK hon
  simp only [Act.put, List.getElem_toArray, List.getElem_cons_succ, List.getElem_cons_zero]
  refine wpAnyH_done (by kernel_rfl) ?_ _
  have r0 := R.out.at 0 rfl
  have r1 := R.out.at 1 rfl
  have r2 := R.out.at 2 rfl
  have r3 := R.out.at 3 rfl
  have r4 := R.out.at 4 rfl
  have r5 := R.out.at 5 rfl
  go_wp2_with fail
  have hg := HG.out
  have hx1 := X1.out.size
  have hd : w1.drew.heap.size = w1.heap.size := rfl
  have hm1 : w.heap.size ≤ w1.drew.heap.size := by omega
  have hm2 : w.heap.size ≤ w5.heap.size := by omega
  refine bodyPost_ret (v := .agg #[.slice a1 nc c1', .slice a2 ng c2', .bool LI, .bool LO, .int .u32 C, .int .i64 P]) ?_ rfl ⟨⟨a1, c1', a2, c2', rfl, own_mono ROW1.out hm1, own_mono ROW2.out hm2, ROW3.out⟩, O.out⟩
  simp [results, Tryz.results149, go_sem, r0, r1, r2, r3, r4, r5]
set_option maxHeartbeats 4000000 in
theorem Copy_any0 (b : Nat) (u : Un) (O : Nat → Prop) (w : World) (h : UW w b 8 u (me b) O) :
    Calls Tryz.prog 148 #[me b] w fun r w' => (∃ c O', r = .returned (me c) ∧ UW w' c 8 u (me c) O' ∧ ∀ j, O' j → w.heap.size ≤ j) ∧ Below w.heap.size w w' := by
  obtain ⟨p, q, A, B, h, e⟩ := h
  have hz : ∀ {p : Value} {l : List Int} {A : Nat → Prop} {w : World}, Rw w p 8 l A → ∃ g, p = .pointer (some ⟨g, 0, none⟩) ∧ FB.St w g 8 (bv l) A := fun h => by
    rcases h with h | ⟨_, h, _⟩
    · exact h
    · cases h
  obtain ⟨g1, rfl, s1⟩ := hz h.came
  obtain ⟨g2, rfl, s2⟩ := hz h.goes
  have I := Lib.hid (is_yes b w (h.blk.at 5 rfl))
  have C1 := Lib.hid (fun w' (hb : Below w.heap.size w w') => FB.Copy_st g1 8 _ A w' (s1.keep hb))
  have C2 := Lib.hid (fun w' (hb : Below w.heap.size w w') => FB.Copy_st g2 8 _ B w' (s2.keep hb))
  have Hok := Lib.hid h.ok
  have ld : ∀ k v, (cellsU u (me g1) (me g2) (me b))[k]? = some v → ∀ w', Below w.heap.size w w' → w'.cell? ⟨b, k, none⟩ = some v := fun k v hv w' hb => (h.blk.keep hb).at k hv
  have c0 := ld 0 _ rfl
  have c1 := ld 1 _ rfl
  have c2 := ld 2 _ rfl
  have c3 := ld 3 _ rfl
  have c4 := ld 4 _ rfl
  have G := Lib.hid (fun p q w' => laid_any u p q (.pointer none) w')
  obtain ⟨L, hL⟩ : ∃ L, lostU u = L := ⟨_, rfl⟩
  rw [hL] at c0 G
  have HL := Lib.hid hL
  have HD := Lib.hid (Below.refl w.heap.size w).drew
  clear h e hz s1 s2 ld hL
  go_enter Tryz.func148, Tryz.ntmps148
  go_wp2_with fail
  refine I.out.mono ?_
  rintro e w1 ⟨rfl, rfl⟩
  go_wp2_with fail
  go_region_held3 (fun w' => Below w.heap.size w w')
    (first | assumption | exact HD.out)
    (first
      | (go_at_call 152; with_reducible refine (C1.out _ HD.out).mono ?_; rintro e w2 ⟨d1, A', rfl, h1, n1, k1⟩; have S1 := Lib.hid h1; have N1 := Lib.hid n1; have B1 := Lib.hid (HD.out.trans (k1.mono HD.out.size)); have hB1 : Below w.heap.size w w2 := B1.out)
      | (go_at_call 152; with_reducible refine (C2.out _ B1.out).mono ?_; rintro e w3 ⟨d2, B', rfl, h2, n2, k2⟩; have S2 := Lib.hid h2; have N2 := Lib.hid n2; have T1 := Lib.hid (S1.out.keep k2); have B2 := Lib.hid (B1.out.trans (k2.mono B1.out.size)); have hB2 : Below w.heap.size w w3 := B2.out)
      | (go_at_call 63; with_reducible refine (G.out _ _ _).mono ?_; rintro e w4 ⟨⟨c, rfl, hc, hn⟩, k3⟩; have R := Lib.hid hc; have Hn := Lib.hid hn; have T2 := Lib.hid (S2.out.keep k3); have T3 := Lib.hid (T1.out.keep k3); have B3 := Lib.hid (B2.out.trans (k3.mono B2.out.size)); have hB3 : Below w.heap.size w w4 := B3.out))
  all_goals
    go_wp2_with fail
    go_ret
    have l1 := T1.out.lt
    have l2 := S2.out.lt
    have l3 := S1.out.lt
    have b1 := B1.out.size
    have b2 := B2.out.size
    have n1 := N1.out
    have n2 := N2.out
    have nc := Hn.out
    have hd : w.drew.heap.size = w.heap.size := rfl
    refine ⟨⟨c, fun j => j = c ∨ A' j ∨ B' j, rfl, ⟨me d1, me d2, A', B', ⟨R.out, .inl ⟨d1, rfl, T3.out⟩, .inl ⟨d2, rfl, T2.out⟩, Hok.out, fun e => by have := l1 c e; omega, fun e => by have := l2 c e; omega, fun j e1 e2 => by have := l3 j e1; have := n2 j e2; omega⟩, fun j => Iff.rfl⟩, ?_⟩, B3.out⟩
    rintro j (rfl | hj | hj)
    · omega
    · have := n1 j hj; omega
    · have := n2 j hj; omega
theorem keyK : Keyed Tryz.prog 3 := int_keyed Tryz.underlying3
theorem key_mk (k : Int) (hk : I64 k) : keyOf Tryz.prog 3 (.int .i64 k) = some (.int .i64 k) := keyOf_int_mk Tryz.underlying3 (WalkArith.wf_i64 ⟨hk.1, hk.2⟩)
def meth (f : Nat) (b : Nat) : Value := .func (.func f) #[.pointer (some ⟨b, 0, none⟩)] #[]
def readL (b : Nat) : List (Int × Value) := [(2, meth 138 b), (1, meth 137 b), (0, meth 136 b)]
def writeL (b : Nat) : List (Int × Value) := [(3, meth 141 b), (2, meth 140 b), (0, meth 139 b)]
theorem reads_any (b : Nat) (w : World) :
    Calls Tryz.prog 134 #[.pointer (some ⟨b, 0, none⟩)] w fun e w' => (∃ g, e = .returned (.map (some g)) ∧ FM Tryz.prog 3 .i64 w' g (readL b)) ∧ Below w.heap.size w w' := by
  have hmm := @run_makeMap Tryz.prog
  have hmf : ∀ w f r, (Instr.makeFunc (.func f) r #[]).run Tryz.prog w = .ok (.func (.func f) r #[]) w := fun w f r => rfl
  go_enter Tryz.func134, Tryz.ntmps134
  go_wp2_with (with_reducible refine at_insert _ _ _ _ rfl ?_)
  refine Lib.hid ?_
  refine list_letter ?_
  intro W hW
  have B0 := Lib.hid (show Below w.heap.size w W by rw [hW.out]; exact (Below.refl w.heap.size w).alloc (Nat.le_refl _) _)
  have H0 := Lib.hid (show FM Tryz.prog 3 .i64 W w.heap.size [] by rw [hW.out]; exact FM.made _ _ _ w)
  clear hW
  obtain ⟨g, hg⟩ : ∃ g, w.heap.size = g := ⟨_, rfl⟩
  rw [hg] at B0 H0
  rw [hg]
  refine wpList_insert_fm _ rfl _ _ _ _ rfl 3 217 .i64 keyK Tryz.underlying219 g _ rfl H0.out (by simp [maxLen]) 0 (meth 136 b) rfl rfl (key_mk 0 ⟨by decide, by decide⟩) ?_
  intro w1 hown hon
  have H1 := Lib.hid hown
  have B1 := Lib.hid (B0.out.trans (hon.below (Nat.le_of_lt H0.out.lt) (fun k e => by have : k = g := e; omega)))
  clear hown hon
  go_wp2_with (with_reducible refine at_insert _ _ _ _ rfl ?_)
  refine Lib.hid ?_
  refine wpList_insert_fm _ rfl _ _ _ _ rfl 3 217 .i64 keyK Tryz.underlying219 g _ rfl H1.out (by simp [maxLen]) 1 (meth 137 b) rfl rfl (key_mk 1 ⟨by decide, by decide⟩) ?_
  intro w2 hown hon
  have H2 := Lib.hid hown
  have B2 := Lib.hid (B1.out.trans (hon.below (Nat.le_of_lt H1.out.lt) (fun k e => by have : k = g := e; omega)))
  clear hown hon
  go_wp2_with (with_reducible refine at_insert _ _ _ _ rfl ?_)
  refine Lib.hid ?_
  refine wpList_insert_fm _ rfl _ _ _ _ rfl 3 217 .i64 keyK Tryz.underlying219 g _ rfl H2.out (by simp [maxLen]) 2 (meth 138 b) rfl rfl (key_mk 2 ⟨by decide, by decide⟩) ?_
  intro w3 hown hon
  have H3 := Lib.hid hown
  have B3 := Lib.hid (B2.out.trans (hon.below (Nat.le_of_lt H2.out.lt) (fun k e => by have : k = g := e; omega)))
  clear hown hon
  go_wp2_with fail
  go_ret
  exact ⟨⟨g, rfl, H3.out⟩, by rw [hg]; exact B3.out⟩
theorem writes_any (b : Nat) (w : World) :
    Calls Tryz.prog 135 #[.pointer (some ⟨b, 0, none⟩)] w fun e w' => (∃ g, e = .returned (.map (some g)) ∧ FM Tryz.prog 3 .i64 w' g (writeL b)) ∧ Below w.heap.size w w' := by
  have hmm := @run_makeMap Tryz.prog
  have hmf : ∀ w f r, (Instr.makeFunc (.func f) r #[]).run Tryz.prog w = .ok (.func (.func f) r #[]) w := fun w f r => rfl
  go_enter Tryz.func135, Tryz.ntmps135
  go_wp2_with (with_reducible refine at_insert _ _ _ _ rfl ?_)
  refine Lib.hid ?_
  refine list_letter ?_
  intro W hW
  have B0 := Lib.hid (show Below w.heap.size w W by rw [hW.out]; exact (Below.refl w.heap.size w).alloc (Nat.le_refl _) _)
  have H0 := Lib.hid (show FM Tryz.prog 3 .i64 W w.heap.size [] by rw [hW.out]; exact FM.made _ _ _ w)
  clear hW
  obtain ⟨g, hg⟩ : ∃ g, w.heap.size = g := ⟨_, rfl⟩
  rw [hg] at B0 H0
  rw [hg]
  refine wpList_insert_fm _ rfl _ _ _ _ rfl 3 180 .i64 keyK Tryz.underlying222 g _ rfl H0.out (by simp [maxLen]) 0 (meth 139 b) rfl rfl (key_mk 0 ⟨by decide, by decide⟩) ?_
  intro w1 hown hon
  have H1 := Lib.hid hown
  have B1 := Lib.hid (B0.out.trans (hon.below (Nat.le_of_lt H0.out.lt) (fun k e => by have : k = g := e; omega)))
  clear hown hon
  go_wp2_with (with_reducible refine at_insert _ _ _ _ rfl ?_)
  refine Lib.hid ?_
  refine wpList_insert_fm _ rfl _ _ _ _ rfl 3 180 .i64 keyK Tryz.underlying222 g _ rfl H1.out (by simp [maxLen]) 2 (meth 140 b) rfl rfl (key_mk 2 ⟨by decide, by decide⟩) ?_
  intro w2 hown hon
  have H2 := Lib.hid hown
  have B2 := Lib.hid (B1.out.trans (hon.below (Nat.le_of_lt H1.out.lt) (fun k e => by have : k = g := e; omega)))
  clear hown hon
  go_wp2_with (with_reducible refine at_insert _ _ _ _ rfl ?_)
  refine Lib.hid ?_
  refine wpList_insert_fm _ rfl _ _ _ _ rfl 3 180 .i64 keyK Tryz.underlying222 g _ rfl H2.out (by simp [maxLen]) 3 (meth 141 b) rfl rfl (key_mk 3 ⟨by decide, by decide⟩) ?_
  intro w3 hown hon
  have H3 := Lib.hid hown
  have B3 := Lib.hid (B2.out.trans (hon.below (Nat.le_of_lt H2.out.lt) (fun k e => by have : k = g := e; omega)))
  clear hown hon
  go_wp2_with fail
  go_ret
  exact ⟨⟨g, rfl, H3.out⟩, by rw [hg]; exact B3.out⟩
end Go.Proofs.YtknhgfofmkpnfaaGreat.Uart
/- Package uart's contracts. Uar w b u O: the uart in block b has u; O: the blocks that are its own. -/
namespace Go.Proofs.YtknhgfofmkpnfaaGreat.Uart
open Go.RowKit Go.Maps Go.ChangeShapes Go.WideShapes Go.ChangeAt Fifo Orow Word Fmap
set_option linter.unusedVariables false

def Uar (w : World) (b : Nat) (u : Un) (O : Nat → Prop) : Prop := UW w b 8 u (me b) O
theorem Uar.only {S O : Nat → Prop} {w w' : World} {b : Nat} {u : Un} (h : Uar w b u O) (ho : Only S w w') (hn : ∀ j, O j → ¬ S j) : Uar w' b u O := UW.only h ho hn
theorem Uar.keep {O : Nat → Prop} {w w' : World} {b : Nat} {u : Un} (h : Uar w b u O) (hb : Below w.heap.size w w') : Uar w' b u O := UW.keep h hb
theorem Uar.lt {O : Nat → Prop} {w : World} {b : Nat} {u : Un} (h : Uar w b u O) : ∀ j, O j → j < w.heap.size := UW.lt h
theorem Uar.ok {O : Nat → Prop} {w : World} {b : Nat} {u : Un} (h : Uar w b u O) : OkU u := UW.ok h
/-- Which one is asked: itself, or one that nobody has. -/
def Asked (v : Value) (w : World) (b room : Nat) (u : Un) (x : Value) (O : Nat → Prop) : Prop :=
  Calls Tryz.prog 54 #[v] w fun e w' => e = .returned (me b) ∧ UW w' b room u x O ∧ Only O w w'
theorem Asked.yes {O : Nat → Prop} {w : World} {b : Nat} {u : Un} (h : Uar w b u O) : Asked (me b) w b 8 u (me b) O := by
  obtain ⟨p, q, A, B, h2, e⟩ := h
  refine (uart_yes b w (h2.blk.at 5 rfl)).mono ?_
  rintro e w' ⟨rfl, rfl⟩
  exact ⟨rfl, ⟨p, q, A, B, h2, by assumption⟩, Only.refl _ _⟩
theorem Asked.non {w : World} {v : Value} (h : Non w v) : Asked v w w.heap.size 0 zeroU (.pointer none) (fun j => j = w.heap.size) := by
  refine (uart_non v w h).mono ?_
  rintro e w' ⟨rfl, h1, hb⟩
  exact ⟨rfl, ⟨_, _, _, _, h1, fun j => ⟨fun e => .inl e, fun e => by rcases e with e | e | e; exact e; exact e.elim; exact e.elim⟩⟩, Only.of_below hb⟩
theorem fzero_r (w : World) : (zeroValue 217).run Tryz.prog w = .ok .nilFunc w := by kernel_rfl
theorem fzero_w (w : World) : (zeroValue 180).run Tryz.prog w = .ok .nilFunc w := by kernel_rfl
theorem look_r {w : World} {g b : Nat} (h : FM Tryz.prog 3 .i64 w g (readL b)) (k : Int) (hk : I64 k) : (Instr.lookup 219 (.map (some g)) (.int .i64 k) true).run Tryz.prog w = .ok (.tuple #[(atR (readL b) k).getD .nilFunc, .bool (atR (readL b) k).isSome]) w :=
  h.look keyK Tryz.underlying219 (fzero_r w) k (key_mk k hk)
theorem look_w {w : World} {g b : Nat} (h : FM Tryz.prog 3 .i64 w g (writeL b)) (k : Int) (hk : I64 k) : (Instr.lookup 222 (.map (some g)) (.int .i64 k) true).run Tryz.prog w = .ok (.tuple #[(atR (writeL b) k).getD .nilFunc, .bool (atR (writeL b) k).isSome]) w :=
  h.look keyK Tryz.underlying222 (fzero_w w) k (key_mk k hk)
/-- What a method leaves. -/
def Left (w w' : World) (b room : Nat) (u : Un) (x : Value) (O : Nat → Prop) : Prop := ∃ O', UW w' b room u x O' ∧ Only O w w' ∧ ∀ j, O' j → O j ∨ w.heap.size ≤ j
/-- Behind another step. -/
theorem Left.trans {w w1 w' : World} {b room : Nat} {u : Un} {x : Value} {O : Nat → Prop} (h : Only O w w1) (k : Left w1 w' b room u x O) : Left w w' b room u x O := by
  obtain ⟨O', k1, k2, k3⟩ := k
  exact ⟨O', k1, h.trans k2, fun j hj => (k3 j hj).imp id (fun e => Nat.le_trans h.size e)⟩
theorem read_q0 (v : Value) (b room : Nat) (u : Un) (x : Value) (O : Nat → Prop) (w : World) (ht : Asked v w b room u x O) :
    Calls Tryz.prog 132 #[v, .int .i64 0] w fun e w' => e = .returned (.int .u32 (readU u 0).1) ∧ Left w w' b room (readU u 0).2 x O := by
  have hr : I64 0 := ⟨by decide, by decide⟩
  have T := Lib.hid ht
  have Kr := Lib.hid hr
  clear ht hr
  go_enter Tryz.func132, Tryz.ntmps132
  go_wp2_with fail
  refine T.out.mono ?_
  rintro e w1 ⟨rfl, h1, hb1⟩
  have T1 := Lib.hid h1
  have B1 := Lib.hid hb1
  clear h1 hb1
  go_wp2_with fail
  refine (reads_any b w1).mono ?_
  rintro e w2 ⟨⟨g, rfl, hm⟩, hb⟩
  have T2 := Lib.hid (T1.out.keep hb)
  have B2 := Lib.hid (B1.out.trans (Only.of_below hb))
  have lk := look_r hm _ Kr.out
  clear hm hb
  rw [show atR (readL b) 0 = some (meth 136 b) from rfl] at lk
  simp only [Option.getD_some, Option.isSome_some, meth] at lk
  go_wp2_with fail
  refine (take_any b room u x O w2 T2.out).mono ?_
  rintro e w3 ⟨rfl, h3⟩
  have R := Lib.hid (Left.trans B2.out h3)
  clear h3 lk
  go_wp2_with fail
  go_ret
  exact ⟨rfl, R.out⟩
theorem read_q1 (v : Value) (b room : Nat) (u : Un) (x : Value) (O : Nat → Prop) (w : World) (ht : Asked v w b room u x O) :
    Calls Tryz.prog 132 #[v, .int .i64 1] w fun e w' => e = .returned (.int .u32 (readU u 1).1) ∧ Left w w' b room (readU u 1).2 x O := by
  have hr : I64 1 := ⟨by decide, by decide⟩
  have T := Lib.hid ht
  have Kr := Lib.hid hr
  clear ht hr
  go_enter Tryz.func132, Tryz.ntmps132
  go_wp2_with fail
  refine T.out.mono ?_
  rintro e w1 ⟨rfl, h1, hb1⟩
  have T1 := Lib.hid h1
  have B1 := Lib.hid hb1
  clear h1 hb1
  go_wp2_with fail
  refine (reads_any b w1).mono ?_
  rintro e w2 ⟨⟨g, rfl, hm⟩, hb⟩
  have T2 := Lib.hid (T1.out.keep hb)
  have B2 := Lib.hid (B1.out.trans (Only.of_below hb))
  have lk := look_r hm _ Kr.out
  clear hm hb
  rw [show atR (readL b) 1 = some (meth 137 b) from rfl] at lk
  simp only [Option.getD_some, Option.isSome_some, meth] at lk
  go_wp2_with fail
  refine (counts_any b room u x O w2 T2.out).mono ?_
  rintro e w3 ⟨rfl, h3⟩
  have R := Lib.hid (show Left w w3 b room u x O from ⟨O, T2.out.keep h3, B2.out.trans (Only.of_below h3), fun j hj => .inl hj⟩)
  clear h3 lk
  go_wp2_with fail
  go_ret
  exact ⟨rfl, R.out⟩
theorem read_q2 (v : Value) (b room : Nat) (u : Un) (x : Value) (O : Nat → Prop) (w : World) (ht : Asked v w b room u x O) :
    Calls Tryz.prog 132 #[v, .int .i64 2] w fun e w' => e = .returned (.int .u32 (readU u 2).1) ∧ Left w w' b room (readU u 2).2 x O := by
  have hr : I64 2 := ⟨by decide, by decide⟩
  have T := Lib.hid ht
  have Kr := Lib.hid hr
  clear ht hr
  go_enter Tryz.func132, Tryz.ntmps132
  go_wp2_with fail
  refine T.out.mono ?_
  rintro e w1 ⟨rfl, h1, hb1⟩
  have T1 := Lib.hid h1
  have B1 := Lib.hid hb1
  clear h1 hb1
  go_wp2_with fail
  refine (reads_any b w1).mono ?_
  rintro e w2 ⟨⟨g, rfl, hm⟩, hb⟩
  have T2 := Lib.hid (T1.out.keep hb)
  have B2 := Lib.hid (B1.out.trans (Only.of_below hb))
  have lk := look_r hm _ Kr.out
  clear hm hb
  rw [show atR (readL b) 2 = some (meth 138 b) from rfl] at lk
  simp only [Option.getD_some, Option.isSome_some, meth] at lk
  go_wp2_with fail
  refine (ctrlNow_any b room u x O w2 T2.out).mono ?_
  rintro e w3 ⟨rfl, rfl⟩
  have R := Lib.hid (show Left w w2 b room u x O from ⟨O, T2.out, B2.out, fun j hj => .inl hj⟩)
  clear lk
  go_wp2_with fail
  go_ret
  exact ⟨rfl, R.out⟩
theorem readU_other (u : Un) (k : Int) (h0 : k ≠ 0) (h1 : k ≠ 1) (h2 : k ≠ 2) : readU u k = (0, u) := by
  unfold readU
  rw [if_neg h0, if_neg h1, if_neg h2]
theorem read_qo (v : Value) (b room : Nat) (u : Un) (x : Value) (O : Nat → Prop) (k : Int) (w : World) (hk : I64 k) (h0 : k ≠ 0) (h1 : k ≠ 1) (h2 : k ≠ 2) (ht : Asked v w b room u x O) :
    Calls Tryz.prog 132 #[v, .int .i64 k] w fun e w' => e = .returned (.int .u32 0) ∧ Left w w' b room u x O := by
  have T := Lib.hid ht
  have Kr := Lib.hid hk
  have H := Lib.hid (And.intro h0 (And.intro h1 h2))
  clear ht hk h0 h1 h2
  go_enter Tryz.func132, Tryz.ntmps132
  go_wp2_with fail
  refine T.out.mono ?_
  rintro e w1 ⟨rfl, h1, hb1⟩
  have T1 := Lib.hid h1
  have B1 := Lib.hid hb1
  clear h1 hb1
  go_wp2_with fail
  refine (reads_any b w1).mono ?_
  rintro e w2 ⟨⟨g, rfl, hm⟩, hb⟩
  have T2 := Lib.hid (T1.out.keep hb)
  have B2 := Lib.hid (B1.out.trans (Only.of_below hb))
  have lk := look_r hm _ Kr.out
  clear hm hb
  rw [show atR (readL b) k = none by unfold readL atR; rw [if_neg H.out.2.2]; unfold atR; rw [if_neg H.out.2.1]; unfold atR; rw [if_neg H.out.1]; rfl] at lk
  simp only [Option.getD_none, Option.isSome_none] at lk
  have R := Lib.hid (show Left w w2 b room u x O from ⟨O, T2.out, B2.out, fun j hj => .inl hj⟩)
  go_wp2_with fail
  go_ret
  exact ⟨rfl, R.out⟩
theorem read_q (v : Value) (b room : Nat) (u : Un) (x : Value) (O : Nat → Prop) (k : Int) (w : World) (hk : I64 k) (ht : Asked v w b room u x O) :
    Calls Tryz.prog 132 #[v, .int .i64 k] w fun e w' => e = .returned (.int .u32 (readU u k).1) ∧ Left w w' b room (readU u k).2 x O := by
  by_cases h0 : k = 0
  · subst h0; exact read_q0 v b room u x O w ht
  by_cases h1 : k = 1
  · subst h1; exact read_q1 v b room u x O w ht
  by_cases h2 : k = 2
  · subst h2; exact read_q2 v b room u x O w ht
  rw [readU_other u k h0 h1 h2]
  exact read_qo v b room u x O k w hk h0 h1 h2 ht
/-- What is written, where there are so many places. -/
def writeR (room : Nat) (u : Un) (k v : Int) : Un := if k = 0 then sendR room u v else writeU u k v
theorem writeR_8 {u : Un} (h : OkU u) (k v : Int) : writeR 8 u k v = writeU u k v := by
  unfold writeR writeU sendR
  by_cases e : k = 0
  · rw [if_pos e, if_pos e]
    have := h.goes.2
    by_cases h8 : u.Goes.length = 8
    · rw [if_neg (by omega), if_pos h8]
    · rw [if_pos (by omega), if_neg h8]
  · rw [if_neg e]
theorem inputR_8 {u : Un} (h : OkU u) (b : Int) : inputR 8 u b = inputU u b := by
  unfold inputR inputU
  have := h.came.2
  by_cases h8 : u.Came.length = 8
  · rw [if_neg (by omega), if_pos h8]
  · rw [if_pos (by omega), if_neg h8]
theorem write_q0 (v : Value) (b room : Nat) (u : Un) (x : Value) (O : Nat → Prop) (z : Int) (w : World) (h8 : room ≤ 8) (hz : 0 ≤ z ∧ z < 4294967296) (ht : Asked v w b room u x O) :
    Calls Tryz.prog 133 #[v, .int .i64 0, .int .u32 z] w fun e w' => e = .returned (.tuple #[]) ∧ Left w w' b room (writeR room u 0 z) x O := by
  have hr : I64 0 := ⟨by decide, by decide⟩
  have T := Lib.hid ht
  have Kr := Lib.hid hr
  have Hz := Lib.hid hz
  have H8 := Lib.hid h8
  clear ht hr hz h8
  go_enter Tryz.func133, Tryz.ntmps133
  go_wp2_with fail
  refine T.out.mono ?_
  rintro e w1 ⟨rfl, h1, hb1⟩
  have T1 := Lib.hid h1
  have B1 := Lib.hid hb1
  clear h1 hb1
  go_wp2_with fail
  refine (writes_any b w1).mono ?_
  rintro e w2 ⟨⟨g, rfl, hm⟩, hb⟩
  have T2 := Lib.hid (T1.out.keep hb)
  have B2 := Lib.hid (B1.out.trans (Only.of_below hb))
  have lk := look_w hm _ Kr.out
  clear hm hb
  rw [show atR (writeL b) 0 = some (meth 139 b) from rfl] at lk
  simp only [Option.getD_some, Option.isSome_some, meth] at lk
  go_wp2_with fail
  refine (send_any b room u x O z w2 H8.out Hz.out T2.out).mono ?_
  rintro e w3 ⟨rfl, h3⟩
  have R := Lib.hid (show Left w w3 b room (writeR room u 0 z) x O from Left.trans B2.out h3)
  clear h3 lk
  go_wp2_with fail
  first | go_end0 | refine bodyPost_ret (results_none rfl _ _ _) rfl ?_
  exact ⟨rfl, R.out⟩
theorem write_q2 (v : Value) (b room : Nat) (u : Un) (x : Value) (O : Nat → Prop) (z : Int) (w : World) (h8 : room ≤ 8) (hz : 0 ≤ z ∧ z < 4294967296) (ht : Asked v w b room u x O) :
    Calls Tryz.prog 133 #[v, .int .i64 2, .int .u32 z] w fun e w' => e = .returned (.tuple #[]) ∧ Left w w' b room (writeR room u 2 z) x O := by
  have hr : I64 2 := ⟨by decide, by decide⟩
  have T := Lib.hid ht
  have Kr := Lib.hid hr
  have Hz := Lib.hid hz
  have H8 := Lib.hid h8
  clear ht hr hz h8
  go_enter Tryz.func133, Tryz.ntmps133
  go_wp2_with fail
  refine T.out.mono ?_
  rintro e w1 ⟨rfl, h1, hb1⟩
  have T1 := Lib.hid h1
  have B1 := Lib.hid hb1
  clear h1 hb1
  go_wp2_with fail
  refine (writes_any b w1).mono ?_
  rintro e w2 ⟨⟨g, rfl, hm⟩, hb⟩
  have T2 := Lib.hid (T1.out.keep hb)
  have B2 := Lib.hid (B1.out.trans (Only.of_below hb))
  have lk := look_w hm _ Kr.out
  clear hm hb
  rw [show atR (writeL b) 2 = some (meth 140 b) from rfl] at lk
  simp only [Option.getD_some, Option.isSome_some, meth] at lk
  go_wp2_with fail
  refine (setCtrl_any b room u x O z w2 Hz.out T2.out).mono ?_
  rintro e w3 ⟨rfl, h3⟩
  have R := Lib.hid (show Left w w3 b room (writeR room u 2 z) x O from Left.trans B2.out h3)
  clear h3 lk
  go_wp2_with fail
  first | go_end0 | refine bodyPost_ret (results_none rfl _ _ _) rfl ?_
  exact ⟨rfl, R.out⟩
theorem write_q3 (v : Value) (b room : Nat) (u : Un) (x : Value) (O : Nat → Prop) (z : Int) (w : World) (h8 : room ≤ 8) (hz : 0 ≤ z ∧ z < 4294967296) (ht : Asked v w b room u x O) :
    Calls Tryz.prog 133 #[v, .int .i64 3, .int .u32 z] w fun e w' => e = .returned (.tuple #[]) ∧ Left w w' b room (writeR room u 3 z) x O := by
  have hr : I64 3 := ⟨by decide, by decide⟩
  have T := Lib.hid ht
  have Kr := Lib.hid hr
  have Hz := Lib.hid hz
  have H8 := Lib.hid h8
  clear ht hr hz h8
  go_enter Tryz.func133, Tryz.ntmps133
  go_wp2_with fail
  refine T.out.mono ?_
  rintro e w1 ⟨rfl, h1, hb1⟩
  have T1 := Lib.hid h1
  have B1 := Lib.hid hb1
  clear h1 hb1
  go_wp2_with fail
  refine (writes_any b w1).mono ?_
  rintro e w2 ⟨⟨g, rfl, hm⟩, hb⟩
  have T2 := Lib.hid (T1.out.keep hb)
  have B2 := Lib.hid (B1.out.trans (Only.of_below hb))
  have lk := look_w hm _ Kr.out
  clear hm hb
  rw [show atR (writeL b) 3 = some (meth 141 b) from rfl] at lk
  simp only [Option.getD_some, Option.isSome_some, meth] at lk
  go_wp2_with fail
  refine (forgetLost_any b room u x O z w2 Hz.out T2.out).mono ?_
  rintro e w3 ⟨rfl, h3⟩
  have R := Lib.hid (show Left w w3 b room (writeR room u 3 z) x O from Left.trans B2.out h3)
  clear h3 lk
  go_wp2_with fail
  first | go_end0 | refine bodyPost_ret (results_none rfl _ _ _) rfl ?_
  exact ⟨rfl, R.out⟩
theorem writeU_other (u : Un) (k z : Int) (h0 : k ≠ 0) (h2 : k ≠ 2) (h3 : k ≠ 3) : writeU u k z = u := by
  unfold writeU
  rw [if_neg h0, if_neg h2, if_neg h3]
theorem write_qo (v : Value) (b room : Nat) (u : Un) (x : Value) (O : Nat → Prop) (k z : Int) (w : World) (hk : I64 k) (h0 : k ≠ 0) (h1 : k ≠ 2) (h2 : k ≠ 3) (ht : Asked v w b room u x O) :
    Calls Tryz.prog 133 #[v, .int .i64 k, .int .u32 z] w fun e w' => e = .returned (.tuple #[]) ∧ Left w w' b room u x O := by
  have T := Lib.hid ht
  have Kr := Lib.hid hk
  have H := Lib.hid (And.intro h0 (And.intro h1 h2))
  clear ht hk h0 h1 h2
  go_enter Tryz.func133, Tryz.ntmps133
  go_wp2_with fail
  refine T.out.mono ?_
  rintro e w1 ⟨rfl, h1, hb1⟩
  have T1 := Lib.hid h1
  have B1 := Lib.hid hb1
  clear h1 hb1
  go_wp2_with fail
  refine (writes_any b w1).mono ?_
  rintro e w2 ⟨⟨g, rfl, hm⟩, hb⟩
  have T2 := Lib.hid (T1.out.keep hb)
  have B2 := Lib.hid (B1.out.trans (Only.of_below hb))
  have lk := look_w hm _ Kr.out
  clear hm hb
  rw [show atR (writeL b) k = none by unfold writeL atR; rw [if_neg H.out.2.2]; unfold atR; rw [if_neg H.out.2.1]; unfold atR; rw [if_neg H.out.1]; rfl] at lk
  simp only [Option.getD_none, Option.isSome_none] at lk
  have R := Lib.hid (show Left w w2 b room u x O from ⟨O, T2.out, B2.out, fun j hj => .inl hj⟩)
  go_wp2_with fail
  first | go_end0 | refine bodyPost_ret (results_none rfl _ _ _) rfl ?_
  exact ⟨rfl, R.out⟩
theorem write_q (v : Value) (b room : Nat) (u : Un) (x : Value) (O : Nat → Prop) (k z : Int) (w : World) (h8 : room ≤ 8) (hk : I64 k) (hz : 0 ≤ z ∧ z < 4294967296) (ht : Asked v w b room u x O) :
    Calls Tryz.prog 133 #[v, .int .i64 k, .int .u32 z] w fun e w' => e = .returned (.tuple #[]) ∧ Left w w' b room (writeR room u k z) x O := by
  by_cases h0 : k = 0
  · subst h0; exact write_q0 v b room u x O z w h8 hz ht
  by_cases h2 : k = 2
  · subst h2; exact write_q2 v b room u x O z w h8 hz ht
  by_cases h3 : k = 3
  · subst h3; exact write_q3 v b room u x O z w h8 hz ht
  rw [show writeR room u k z = u by unfold writeR; rw [if_neg h0, writeU_other u k z h0 h2 h3]]
  exact write_qo v b room u x O k z w hk h0 h2 h3 ht
theorem input_q (v : Value) (b room : Nat) (u : Un) (x : Value) (O : Nat → Prop) (y : Int) (w : World) (h8 : room ≤ 8) (hy : 0 ≤ y ∧ y < 256) (ht : Asked v w b room u x O) :
    Calls Tryz.prog 50 #[v, .int .u8 y] w fun e w' => e = .returned (.bool (inputR room u y).1) ∧ Left w w' b room (inputR room u y).2 x O := by
  have T := Lib.hid ht
  have Hy := Lib.hid hy
  have H8 := Lib.hid h8
  clear ht hy h8
  go_enter Tryz.func50, Tryz.ntmps50
  go_wp2_with fail
  refine T.out.mono ?_
  rintro e w1 ⟨rfl, ⟨p, q, A, B, h1, e1⟩, hb1⟩
  have c2 : w1.cell? ⟨b, 2, none⟩ = some p := h1.blk.at 2 rfl
  have B1 := Lib.hid hb1
  have P := Lib.hid (put_came b room u x p q A B O y w1.drew Hy.out H8.out (h1.keep (Below.refl _ _).drew) e1)
  clear h1 hb1 e1
  go_wp2_with fail
  have O1 : Only O w w1.drew := B1.out.trans (Only.of_below (Below.refl w1.heap.size w1).drew)
  go_region_with ((first | (go_at_call 69; refine P.out.mono ?_; rintro e w2 ⟨rfl, hr⟩; have R := Lib.hid (show Left w w2 b room (inputR room u y).2 x O from Left.trans O1 hr))))
  all_goals
    go_wp2_with fail
    go_ret
    exact ⟨rfl, R.out⟩
theorem tick_q (v : Value) (b room : Nat) (u : Un) (x : Value) (O : Nat → Prop) (w : World) (ht : Asked v w b room u x O) :
    Calls Tryz.prog 30 #[v] w fun e w' => e = .returned (.tuple #[.int .u8 (tickU u).1, .bool (tickU u).2.1]) ∧ Left w w' b room (tickU u).2.2 x O := by
  have T := Lib.hid ht
  clear ht
  by_cases h3 : u.P = 3
  · have e1 : IntKind.i64.wrap (u.P + 1) = 4 := by rw [h3]; rfl
    have et : tickU u = (match u.Goes with | [] => (0, false, { u with P := 0 }) | b :: t => (b, true, { u with P := 0, Goes := t })) := by unfold tickU; rw [if_pos h3]; try (cases u.Goes <;> rfl)
    have H3 := Lib.hid h3
    have Et := Lib.hid et
    clear h3 et
    go_enter Tryz.func30, Tryz.ntmps30
    go_wp2_with fail
    refine T.out.mono ?_
    rintro e w1 ⟨rfl, ⟨p, q, A, B, h1, hO⟩, hb1⟩
    have c4 : w1.cell? ⟨b, 4, none⟩ = some (.int .i64 u.P) := h1.blk.at 4 rfl
    have c3 : w1.cell? ⟨b, 3, none⟩ = some q := h1.blk.at 3 rfl
    have f4 := h1.blk.frozen 4
    have B1 := Lib.hid hb1
    have HO := Lib.hid hO
    have U2 := Lib.hid (h1.toCell (u' := { u with P := 0 }) 4 (.int .i64 0) rfl ⟨h1.ok.came, h1.ok.goes, h1.ok.c, by show (0 : Int) ≤ 0 ∧ (0 : Int) < 4; omega⟩ rfl rfl)
    have O2 := Lib.hid (B1.out.trans ((Only.refl O w1).setCell (p := ⟨b, 4, none⟩) ((hO b).2 (.inl rfl)) (.int .i64 0)))
    have d1 : Int.tmod 4 4 = (0 : Int) := rfl
    clear h1 hb1 hO T
    go_wp2_with fail
    refine calls_letter ?_
    intro X hX
    have U3 := Lib.hid (show UB X b room { u with P := 0 } p q x A B by rw [hX.out]; exact U2.out)
    have O3 := Lib.hid (show Only O w X by rw [hX.out]; exact O2.out)
    clear hX c4 c3 f4 U2 O2
    refine (U3.out.goes.take).mono ?_
    rintro e w2 ⟨rfl, h2, ho⟩
    have hp := U3.out.ok
    have hp2 := hp.goes
    have R := Lib.hid (show Left w w2 b room (tickU u).2.2 x O by
      rw [Et.out]
      obtain ⟨Cm, Gs, LI, LO, C, P⟩ := u
      cases Gs with
      | nil => exact Left.trans O3.out ⟨_, ⟨p, q, A, B, U3.out.toGoes (u' := ⟨Cm, [], LI, LO, C, 0⟩) h2 ho (fun j hj => .inl hj) hp rfl rfl rfl rfl, fun j => Iff.rfl⟩, ho.mono (fun j _ k => (HO.out j).2 (.inr (.inr k))), own_goes HO.out (fun j hj => .inl hj)⟩
      | cons y t => exact Left.trans O3.out ⟨_, ⟨p, q, A, B, U3.out.toGoes (u' := ⟨Cm, t, LI, LO, C, 0⟩) h2 ho (fun j hj => .inl hj) ⟨hp.came, ⟨okB_tail hp2.1, by have := hp2.2; simp at this; show t.length ≤ 8; omega⟩, hp.c, hp.p⟩ rfl rfl rfl rfl, fun j => Iff.rfl⟩, ho.mono (fun j _ k => (HO.out j).2 (.inr (.inr k))), own_goes HO.out (fun j hj => .inl hj)⟩)
    have E1 := Lib.hid (show (tickU u).1 = fstB u.Goes by rw [Et.out]; cases u.Goes <;> rfl)
    have E2 := Lib.hid (show (tickU u).2.1 = !u.Goes.isEmpty by rw [Et.out]; cases u.Goes <;> rfl)
    obtain ⟨y1, hy1⟩ : ∃ y1, fstB u.Goes = y1 := ⟨_, rfl⟩
    obtain ⟨y2, hy2⟩ : ∃ y2, (!u.Goes.isEmpty) = y2 := ⟨_, rfl⟩
    have F1 := Lib.hid hy1
    have F2 := Lib.hid hy2
    simp only [hy1, hy2]
    clear h2 ho hp hp2 hy1 hy2
    go_wp2_with fail
    go_ret2
    exact ⟨by rw [E1.out, E2.out, F1.out, F2.out]; rfl, R.out⟩
  · have et : tickU u = (0, false, { u with P := u.P + 1 }) := by unfold tickU; rw [if_neg h3]
    have H3 := Lib.hid h3
    have Et := Lib.hid et
    clear h3 et
    go_enter Tryz.func30, Tryz.ntmps30
    go_wp2_with fail
    refine T.out.mono ?_
    rintro e w1 ⟨rfl, ⟨p, q, A, B, h1, hO⟩, hb1⟩
    have hp := h1.ok.p
    have c4 : w1.cell? ⟨b, 4, none⟩ = some (.int .i64 u.P) := h1.blk.at 4 rfl
    have f4 := h1.blk.frozen 4
    obtain ⟨n, hn⟩ : ∃ n, u.P + 1 = n := ⟨_, rfl⟩
    have hr := H3.out
    have hn1 : 1 ≤ n ∧ n ≤ 3 := by omega
    have e1 : IntKind.i64.wrap (u.P + 1) = n := by rw [hn]; exact IntWalk.i64_in _ (by omega)
    have d1 : Int.tmod n 4 = n := Int.tmod_eq_of_lt (by omega) (by omega)
    have d2 : (n != 0) = true := by simp; omega
    have d3 : ¬ n = 0 := by omega
    have d4 : (n == 0) = false := by simp; omega
    have R := Lib.hid (show Left w (w1.setCell ⟨b, 4, none⟩ (.int .i64 n)) b room (tickU u).2.2 x O by
      rw [Et.out]
      exact Left.trans (hb1.trans ((Only.refl O w1).setCell (p := ⟨b, 4, none⟩) ((hO b).2 (.inl rfl)) (.int .i64 n))) ⟨O, ⟨p, q, A, B, h1.toCell (u' := { u with P := u.P + 1 }) 4 (.int .i64 n) (by rw [← hn]; rfl) ⟨h1.ok.came, h1.ok.goes, h1.ok.c, by show 0 ≤ u.P + 1 ∧ u.P + 1 < 4; omega⟩ rfl rfl, hO⟩, Only.refl _ _, fun j hj => .inl hj⟩)
    have E1 := Lib.hid (show (tickU u).1 = 0 by rw [Et.out])
    have E2 := Lib.hid (show (tickU u).2.1 = false by rw [Et.out])
    clear h1 hb1 hO T hn hr hp hn1
    go_wp2_with fail
    first | go_ret2 | skip
    exact ⟨by rw [E1.out, E2.out]; rfl, R.out⟩
theorem line_q1 (v : Value) (room : Nat) (u : Un) (x : Value) (w : World) (hc : u.C = 1) (ht : Calls Tryz.prog 54 #[v] w fun e w' => ∃ b, e = .returned (me b) ∧ (∃ p q A B, UB w' b room u p q x A B) ∧ Below w.heap.size w w') :
    Calls Tryz.prog 131 #[v] w fun e w' => e = .returned (.bool (decide (0 < u.Came.length))) ∧ Below w.heap.size w w' := by
  have T := Lib.hid ht
  have d1 : (u.C == 1) = true := by simpa using hc
  obtain ⟨n, hn⟩ : ∃ n, u.Came.length = n := ⟨_, rfl⟩
  have Hn := Lib.hid hn
  rw [hn]
  clear ht hc hn
  go_enter Tryz.func131, Tryz.ntmps131
  go_wp2_with fail
  refine T.out.mono ?_
  rintro e w1 ⟨b, rfl, ⟨p, q, A, B, h1⟩, hb1⟩
  have B1 := Lib.hid hb1
  have c1 : w1.cell? ⟨b, 1, none⟩ = some (.int .u32 u.C) := h1.blk.at 1 rfl
  have c2 : w1.cell? ⟨b, 2, none⟩ = some p := h1.blk.at 2 rfl
  have hL := (h1.came).len
  rw [Hn.out] at hL
  have L := Lib.hid hL
  clear h1 hb1 T hL
  go_wp2_with fail
  refine L.out.mono ?_
  rintro e w2 ⟨rfl, hb⟩
  have B2 := Lib.hid (B1.out.trans (hb.mono B1.out.size))
  clear hb
  go_wp2_with fail
  go_ret
  exact ⟨by first | rfl | exact ret_bool (by simp), B2.out⟩
theorem line_q0 (v : Value) (room : Nat) (u : Un) (x : Value) (w : World) (hc : ¬ u.C = 1) (ht : Calls Tryz.prog 54 #[v] w fun e w' => ∃ b, e = .returned (me b) ∧ (∃ p q A B, UB w' b room u p q x A B) ∧ Below w.heap.size w w') :
    Calls Tryz.prog 131 #[v] w fun e w' => e = .returned (.bool false) ∧ Below w.heap.size w w' := by
  have T := Lib.hid ht
  have d1 : (u.C == 1) = false := by simpa using hc
  obtain ⟨n, hn⟩ : ∃ n, u.Came.length = n := ⟨_, rfl⟩
  have Hn := Lib.hid hn
  clear ht hc hn
  go_enter Tryz.func131, Tryz.ntmps131
  go_wp2_with fail
  refine T.out.mono ?_
  rintro e w1 ⟨b, rfl, ⟨p, q, A, B, h1⟩, hb1⟩
  have B1 := Lib.hid hb1
  have c1 : w1.cell? ⟨b, 1, none⟩ = some (.int .u32 u.C) := h1.blk.at 1 rfl
  have c2 : w1.cell? ⟨b, 2, none⟩ = some p := h1.blk.at 2 rfl
  have hL := (h1.came).len
  rw [Hn.out] at hL
  have L := Lib.hid hL
  clear h1 hb1 T hL
  go_wp2_with fail
  go_ret
  exact ⟨rfl, B1.out⟩
theorem line_q (v : Value) (room : Nat) (u : Un) (x : Value) (w : World) (ht : Calls Tryz.prog 54 #[v] w fun e w' => ∃ b, e = .returned (me b) ∧ (∃ p q A B, UB w' b room u p q x A B) ∧ Below w.heap.size w w') :
    Calls Tryz.prog 131 #[v] w fun e w' => e = .returned (.bool (lineU u)) ∧ Below w.heap.size w w' := by
  by_cases hc : u.C = 1
  · rw [show lineU u = decide (0 < u.Came.length) by unfold lineU; simp [hc]]
    exact line_q1 v room u x w hc ht
  · rw [show lineU u = false by unfold lineU; simp [hc]]
    exact line_q0 v room u x w hc ht

/-! ### The contracts -/
theorem New_any (w : World) :
    Calls Tryz.prog 40 #[] w fun e w' => (∃ b O, e = .returned (.pointer (some ⟨b, 0, none⟩)) ∧ Uar w' b zeroU O ∧ ∀ j, O j → w.heap.size ≤ j) ∧ Below w.heap.size w w' := New_any0 w
theorem Read_any (b : Nat) (u : Un) (O : Nat → Prop) (reg : Int) (w : World) (h1 : I64 reg) (h : Uar w b u O) :
    Calls Tryz.prog 132 #[.pointer (some ⟨b, 0, none⟩), .int .i64 reg] w fun e w' => e = .returned (.int .u32 (readU u reg).1) ∧ ∃ O', Uar w' b (readU u reg).2 O' ∧ Only O w w' ∧ ∀ j, O' j → O j ∨ w.heap.size ≤ j :=
  read_q (me b) b 8 u (me b) O reg w h1 (Asked.yes h)
theorem Write_any (b : Nat) (u : Un) (O : Nat → Prop) (reg v : Int) (w : World) (h1 : I64 reg) (h2 : 0 ≤ v ∧ v < 4294967296) (h : Uar w b u O) :
    Calls Tryz.prog 133 #[.pointer (some ⟨b, 0, none⟩), .int .i64 reg, .int .u32 v] w fun e w' => e = .returned (.tuple #[]) ∧ ∃ O', Uar w' b (writeU u reg v) O' ∧ Only O w w' ∧ ∀ j, O' j → O j ∨ w.heap.size ≤ j := by
  have := write_q (me b) b 8 u (me b) O reg v w (by omega) h1 h2 (Asked.yes h)
  rw [writeR_8 h.ok] at this
  exact this
theorem Input_any (b : Nat) (u : Un) (O : Nat → Prop) (x : Int) (w : World) (h2 : 0 ≤ x ∧ x < 256) (h : Uar w b u O) :
    Calls Tryz.prog 50 #[.pointer (some ⟨b, 0, none⟩), .int .u8 x] w fun e w' => e = .returned (.bool (inputU u x).1) ∧ ∃ O', Uar w' b (inputU u x).2 O' ∧ Only O w w' ∧ ∀ j, O' j → O j ∨ w.heap.size ≤ j := by
  have := input_q (me b) b 8 u (me b) O x w (by omega) h2 (Asked.yes h)
  rw [inputR_8 h.ok] at this
  exact this
theorem Tick_any (b : Nat) (u : Un) (O : Nat → Prop) (w : World) (h : Uar w b u O) :
    Calls Tryz.prog 30 #[.pointer (some ⟨b, 0, none⟩)] w fun e w' => e = .returned (.tuple #[.int .u8 (tickU u).1, .bool (tickU u).2.1]) ∧ ∃ O', Uar w' b (tickU u).2.2 O' ∧ Only O w w' ∧ ∀ j, O' j → O j ∨ w.heap.size ≤ j :=
  tick_q (me b) b 8 u (me b) O w (Asked.yes h)
theorem Line_any (b : Nat) (u : Un) (O : Nat → Prop) (w : World) (h : Uar w b u O) :
    Calls Tryz.prog 131 #[.pointer (some ⟨b, 0, none⟩)] w fun e w' => e = .returned (.bool (lineU u)) ∧ Below w.heap.size w w' := by
  obtain ⟨p, q, A, B, h1, hO⟩ := h
  refine line_q (me b) 8 u (me b) w ((uart_yes b w (h1.blk.at 5 rfl)).mono ?_)
  rintro e w' ⟨rfl, rfl⟩
  exact ⟨b, rfl, ⟨p, q, A, B, h1⟩, Below.refl _ _⟩
/-- State: two rows of its own, apart, laid anew. -/
theorem State_any (b : Nat) (u : Un) (O : Nat → Prop) (w : World) (h : Uar w b u O) :
    Calls Tryz.prog 149 #[.pointer (some ⟨b, 0, none⟩)] w fun e w' => (∃ a1 c1 a2 c2, e = .returned (.agg #[.slice a1 u.Came.length c1, .slice a2 u.Goes.length c2, .bool u.LI, .bool u.LO, .int .u32 u.C, .int .i64 u.P]) ∧ w'.ownsRow w.heap.size 5 1 (.slice a1 u.Came.length c1) u.Came.length (bv u.Came) ∧ w'.ownsRow w.heap.size 5 1 (.slice a2 u.Goes.length c2) u.Goes.length (bv u.Goes) ∧ ∀ j, PB (.slice a1 u.Came.length c1) j → ¬ PB (.slice a2 u.Goes.length c2) j) ∧ Below w.heap.size w w' := by
  obtain ⟨p, q, A, B, h1, hO⟩ := h
  refine State_q (me b) 8 u (me b) w (fun W hb _ => (uart_yes b W ((h1.keep hb).blk.at 5 rfl)).mono ?_)
  rintro e w' ⟨rfl, rfl⟩
  have l1 := h1.blk.lt
  exact ⟨b, p, q, A, B, rfl, h1.keep hb, Below.refl _ _, by omega, fun e => by have := h1.came.lt _ e; omega, fun e => by have := h1.goes.lt _ e; omega⟩
theorem Copy_any (b : Nat) (u : Un) (O : Nat → Prop) (w : World) (h : Uar w b u O) :
    Calls Tryz.prog 148 #[.pointer (some ⟨b, 0, none⟩)] w fun e w' => (∃ c O', e = .returned (.pointer (some ⟨c, 0, none⟩)) ∧ Uar w' c u O' ∧ ∀ j, O' j → w.heap.size ≤ j) ∧ Below w.heap.size w w' := Copy_any0 b u O w h
/-- What nobody has turns nothing. -/
theorem left_below {w w' : World} {room : Nat} {u : Un} {x : Value} (h : Left w w' w.heap.size room u x (fun j => j = w.heap.size)) : Below w.heap.size w w' := by
  obtain ⟨O', h1, h2, h3⟩ := h
  exact h2.below (Nat.le_refl _) (fun k e => Nat.le_of_eq e.symm)
theorem Read_non (v : Value) (reg : Int) (w : World) (h1 : I64 reg) (h : Non w v) :
    Calls Tryz.prog 132 #[v, .int .i64 reg] w fun e w' => e = .returned (.int .u32 0) ∧ Below w.heap.size w w' := by
  refine (read_q v w.heap.size 0 zeroU (.pointer none) _ reg w h1 (Asked.non h)).mono ?_
  rintro e w' ⟨rfl, hl⟩
  refine ⟨?_, ?_⟩
  · congr 2
    unfold readU
    by_cases e0 : reg = 0
    · rw [if_pos e0]; rfl
    by_cases e1 : reg = 1
    · rw [if_neg e0, if_pos e1]; rfl
    by_cases e2 : reg = 2
    · rw [if_neg e0, if_neg e1, if_pos e2]; rfl
    · rw [if_neg e0, if_neg e1, if_neg e2]
  · exact left_below hl
theorem Write_non (v : Value) (reg x : Int) (w : World) (h1 : I64 reg) (h2 : 0 ≤ x ∧ x < 4294967296) (h : Non w v) :
    Calls Tryz.prog 133 #[v, .int .i64 reg, .int .u32 x] w fun e w' => e = .returned (.tuple #[]) ∧ Below w.heap.size w w' := by
  refine (write_q v w.heap.size 0 zeroU (.pointer none) _ reg x w (by omega) h1 h2 (Asked.non h)).mono ?_
  rintro e w' ⟨rfl, hl⟩
  exact ⟨rfl, left_below hl⟩
theorem Input_non (v : Value) (x : Int) (w : World) (h2 : 0 ≤ x ∧ x < 256) (h : Non w v) :
    Calls Tryz.prog 50 #[v, .int .u8 x] w fun e w' => e = .returned (.bool false) ∧ Below w.heap.size w w' := by
  refine (input_q v w.heap.size 0 zeroU (.pointer none) _ x w (by omega) h2 (Asked.non h)).mono ?_
  rintro e w' ⟨rfl, hl⟩
  exact ⟨rfl, left_below hl⟩
theorem Tick_non (v : Value) (w : World) (h : Non w v) :
    Calls Tryz.prog 30 #[v] w fun e w' => e = .returned (.tuple #[.int .u8 0, .bool false]) ∧ Below w.heap.size w w' := by
  refine (tick_q v w.heap.size 0 zeroU (.pointer none) _ w (Asked.non h)).mono ?_
  rintro e w' ⟨rfl, hl⟩
  exact ⟨rfl, left_below hl⟩
theorem Line_non (v : Value) (w : World) (h : Non w v) :
    Calls Tryz.prog 131 #[v] w fun e w' => e = .returned (.bool false) ∧ Below w.heap.size w w' := by
  refine line_q v 0 zeroU (.pointer none) w ((uart_non v w h).mono ?_)
  rintro e w' ⟨rfl, h1, hb⟩
  exact ⟨_, rfl, ⟨_, _, _, _, h1⟩, hb⟩
theorem State_non (v : Value) (w : World) (h : Non w v) :
    Calls Tryz.prog 149 #[v] w fun e w' => (∃ a1 c1 a2 c2, e = .returned (.agg #[.slice a1 0 c1, .slice a2 0 c2, .bool false, .bool false, .int .u32 0, .int .i64 0])) ∧ Below w.heap.size w w' := by
  refine (State_q v 0 zeroU (.pointer none) w (fun W hb hs => (uart_non v W (h.keep hb)).mono ?_)).mono ?_
  · rintro e w' ⟨rfl, h1, hb1⟩
    exact ⟨_, _, _, _, _, rfl, h1, hb1, by omega, fun e => e, fun e => e⟩
  · rintro e w' ⟨⟨a1, c1, a2, c2, rfl, -⟩, hb⟩
    exact ⟨⟨a1, c1, a2, c2, rfl⟩, hb⟩
theorem Copy_non (v : Value) (w : World) (h : Non w v) :
    Calls Tryz.prog 148 #[v] w fun e w' => e = .returned (.pointer none) ∧ Below w.heap.size w w' := by
  have A := is_non v w h
  clear h
  go_enter Tryz.func148, Tryz.ntmps148
  go_wp2_with fail
  refine A.mono ?_
  rintro e w1 ⟨rfl, rfl⟩
  clear A
  go_wp2_with fail
  go_ret
  exact ⟨rfl, Below.refl _ _⟩
end Go.Proofs.YtknhgfofmkpnfaaGreat.Uart
