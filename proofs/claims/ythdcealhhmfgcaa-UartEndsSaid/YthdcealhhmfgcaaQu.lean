/- Package uart: a uart in a block, over two rows that were answered (8 places), or over none (no place). -/
import Derived.Test.YthdcealhhmfgcaaQa
import Derived.Test.YthdcealhhmfgcaaOw
import Derived.Test.YthdcealhhmfgcaaZa
import Derived.Test.YthdcealhhmfgcaaFmB
import Derived.Test.YthdcealhhmfgcaaFnB
import Derived.Laws.BitsAllLaws
import Derived.LaidEqlPtr
namespace Go.Proofs.Ythdcealhhmfgcaa.Uart
open Go.RowKit Go.Maps Go.ChangeShapes Go.WideShapes Go.ChangeAt Fifo Orow Word
set_option linter.unusedVariables false

def I64 (x : Int) : Prop := -9223372036854775808 ≤ x ∧ x ≤ 9223372036854775807
theorem bvz (l : List Int) : (bv l).length = l.length := by simp [bv]
/-- A row that is one, or none; how many places; what it has; which blocks. -/
def Rw (w : World) (p : Value) (room : Nat) (l : List Int) (O : Nat → Prop) : Prop :=
  (∃ g, p = .pointer (some ⟨g, 0, none⟩) ∧ FB.St w g room (bv l) O) ∨ (p = .pointer none ∧ room = 0 ∧ l = [] ∧ O = fun _ => False)
theorem Rw.only {S O : Nat → Prop} {w w' : World} {p : Value} {room : Nat} {l : List Int} (h : Rw w p room l O) (ho : Only S w w') (hn : ∀ j, O j → ¬ S j) : Rw w' p room l O := by
  rcases h with ⟨g, rfl, h⟩ | h
  · exact .inl ⟨g, rfl, h.only ho hn⟩
  · exact .inr h
theorem Rw.keep {O : Nat → Prop} {w w' : World} {p : Value} {room : Nat} {l : List Int} (h : Rw w p room l O) (hb : Below w.heap.size w w') : Rw w' p room l O :=
  h.only (S := fun _ => False) (Only.of_below hb) (fun _ _ e => e)
theorem Rw.lt {O : Nat → Prop} {w : World} {p : Value} {room : Nat} {l : List Int} (h : Rw w p room l O) : ∀ j, O j → j < w.heap.size := by
  rcases h with ⟨g, rfl, h⟩ | ⟨_, _, _, rfl⟩
  · exact h.lt
  · exact fun j e => e.elim
theorem Rw.le {O : Nat → Prop} {w : World} {p : Value} {room : Nat} {l : List Int} (h : Rw w p room l O) : l.length ≤ room := by
  rcases h with ⟨g, rfl, h⟩ | ⟨_, rfl, rfl, _⟩
  · have := h.le; rwa [bvz] at this
  · exact Nat.le_refl _
theorem Rw.put {O : Nat → Prop} {w : World} {p : Value} {room : Nat} {l : List Int} (h : Rw w p room l O) (h9 : l.length ≤ 1900) (x : Int) (ok : Bool) (l' : List Int) (hok : decide (l.length < room) = ok) (hl' : (if ok then l ++ [x] else l) = l') :
    Calls Try.prog 46 #[p, .int .u8 x] w fun e w' => e = .returned (.bool ok) ∧ ∃ O', Rw w' p room l' O' ∧ Only O w w' ∧ ∀ j, O' j → O j ∨ w.heap.size ≤ j := by
  rcases h with ⟨g, rfl, h⟩ | ⟨rfl, rfl, rfl, rfl⟩
  · refine (FB.Put_st g room (bv l) (bv l') O (.int .u8 x) ok w h (by rw [bvz]; exact h9) ⟨x, rfl⟩ (by rw [bvz]; exact hok) (by rw [← hl']; cases ok <;> simp [bv])).mono ?_
    rintro e w' ⟨rfl, O', h1, h2, h3⟩
    exact ⟨rfl, O', .inl ⟨g, rfl, h1⟩, h2, h3⟩
  · have e : ok = false := by rw [← hok]; rfl
    subst e
    have e : l' = [] := by rw [← hl']; rfl
    subst e
    refine (FB.Put_non _ (.int .u8 x) w (.inl rfl)).mono ?_
    rintro e w' ⟨rfl, hb⟩
    exact ⟨rfl, fun _ => False, .inr ⟨rfl, rfl, rfl, rfl⟩, Only.of_below hb, fun j e => e.elim⟩
def fstB (l : List Int) : Int := l.headD 0
theorem Rw.take {O : Nat → Prop} {w : World} {p : Value} {room : Nat} {l : List Int} (h : Rw w p room l O) :
    Calls Try.prog 31 #[p] w fun e w' => e = .returned (.tuple #[.int .u8 (fstB l), .bool (!l.isEmpty)]) ∧ Rw w' p room l.tail O ∧ Only O w w' := by
  rcases h with ⟨g, rfl, h⟩ | ⟨rfl, rfl, rfl, rfl⟩
  · refine (FB.Take_st g room (bv l) O w h).mono ?_
    rintro e w' ⟨rfl, h1, h2⟩
    cases l with
    | nil => exact ⟨rfl, .inl ⟨g, rfl, h1⟩, h2⟩
    | cons b t => exact ⟨rfl, .inl ⟨g, rfl, h1⟩, h2⟩
  · refine (FB.Take_non _ w (.inl rfl)).mono ?_
    rintro e w' ⟨rfl, hb⟩
    exact ⟨rfl, .inr ⟨rfl, rfl, rfl, rfl⟩, Only.of_below hb⟩
theorem Rw.len {O : Nat → Prop} {w : World} {p : Value} {room : Nat} {l : List Int} (h : Rw w p room l O) :
    Calls Try.prog 38 #[p] w fun e w' => e = .returned (.int .i64 (l.length : Nat)) ∧ Below w.heap.size w w' := by
  rcases h with ⟨g, rfl, h⟩ | ⟨rfl, rfl, rfl, rfl⟩
  · refine (FB.Len_st g room (bv l) O w h).mono ?_
    rintro e w' ⟨rfl, rfl⟩
    exact ⟨by rw [bvz], Below.refl _ _⟩
  · exact FB.Len_non _ w (.inl rfl)
/-- All, asked of a row, or of none. -/
theorem Rw.all {O : Nat → Prop} {w : World} {p : Value} {room : Nat} {l : List Int} (h : Rw w p room l O) :
    Calls Try.prog 52 #[p] w fun e w' => ∃ box, e = .returned (.func (.func 57) #[] #[.pointer (some ⟨box, 0, none⟩)]) ∧ Below w.heap.size w w' ∧
      ∀ m w'', 2 ≤ m → Below w'.heap.size w' w'' → SeqC Fence.wide m Try.prog 57 (fun lp => #[] ++ #[.func (.yield lp) #[] #[]] ++ #[.pointer (some ⟨box, 0, none⟩)]) l.length (FB.els (bv l)) (fun _ => False) w'' := by
  rcases h with ⟨g, rfl, h⟩ | ⟨rfl, rfl, rfl, rfl⟩
  · refine (FB.All_st g room (bv l) O w h).mono ?_
    rintro e w' ⟨box, rfl, _, hb, hs⟩
    rw [bvz] at hs
    exact ⟨box, rfl, hb, hs⟩
  · exact FB.All_non none w (.inl rfl)

def lostU (u : Un) : Int := (if u.LI then 65536 else 0) + (if u.LO then 131072 else 0)
abbrev cellsU (u : Un) (p q x : Value) : List Value := [.int .u32 (lostU u), .int .u32 u.C, p, q, .int .i64 u.P, x]
/-- A uart in block b. -/
structure UB (w : World) (b room : Nat) (u : Un) (p q x : Value) (A B : Nat → Prop) : Prop where
  blk : Blk w b 50 (cellsU u p q x)
  came : Rw w p room u.Came A
  goes : Rw w q room u.Goes B
  ok : OkU u
  na : ¬ A b
  nb : ¬ B b
  ab : ∀ j, A j → ¬ B j
/-- The same, with the blocks that are its own. -/
def UW (w : World) (b room : Nat) (u : Un) (x : Value) (O : Nat → Prop) : Prop := ∃ p q A B, UB w b room u p q x A B ∧ ∀ j, O j ↔ (j = b ∨ A j ∨ B j)
theorem UB.only {S : Nat → Prop} {w w' : World} {b room : Nat} {u : Un} {p q x : Value} {A B : Nat → Prop} (h : UB w b room u p q x A B) (ho : Only S w w') (h1 : ¬ S b) (h2 : ∀ j, A j → ¬ S j) (h3 : ∀ j, B j → ¬ S j) : UB w' b room u p q x A B :=
  ⟨h.blk.only ho h1, h.came.only ho h2, h.goes.only ho h3, h.ok, h.na, h.nb, h.ab⟩
theorem UB.keep {w w' : World} {b room : Nat} {u : Un} {p q x : Value} {A B : Nat → Prop} (h : UB w b room u p q x A B) (hb : Below w.heap.size w w') : UB w' b room u p q x A B :=
  h.only (S := fun _ => False) (Only.of_below hb) (fun e => e) (fun _ _ e => e) (fun _ _ e => e)
theorem UW.only {S O : Nat → Prop} {w w' : World} {b room : Nat} {u : Un} {x : Value} (h : UW w b room u x O) (ho : Only S w w') (hn : ∀ j, O j → ¬ S j) : UW w' b room u x O := by
  obtain ⟨p, q, A, B, h, e⟩ := h
  exact ⟨p, q, A, B, h.only ho (hn b ((e b).2 (.inl rfl))) (fun j hj => hn j ((e j).2 (.inr (.inl hj)))) (fun j hj => hn j ((e j).2 (.inr (.inr hj)))), e⟩
theorem UW.keep {O : Nat → Prop} {w w' : World} {b room : Nat} {u : Un} {x : Value} (h : UW w b room u x O) (hb : Below w.heap.size w w') : UW w' b room u x O :=
  h.only (S := fun _ => False) (Only.of_below hb) (fun _ _ e => e)
theorem UW.lt {O : Nat → Prop} {w : World} {b room : Nat} {u : Un} {x : Value} (h : UW w b room u x O) : ∀ j, O j → j < w.heap.size := by
  obtain ⟨p, q, A, B, h, e⟩ := h
  intro j hj
  rcases (e j).1 hj with rfl | hj | hj
  · exact h.blk.lt
  · exact h.came.lt j hj
  · exact h.goes.lt j hj
theorem UW.ok {O : Nat → Prop} {w : World} {b room : Nat} {u : Un} {x : Value} (h : UW w b room u x O) : OkU u := by
  obtain ⟨p, q, A, B, h, e⟩ := h
  exact h.ok
/-- What came has turned. -/
theorem UB.toCame {w w' : World} {b room : Nat} {u u' : Un} {p q x : Value} {A A' B : Nat → Prop} (h : UB w b room u p q x A B) (h1 : Rw w' p room u'.Came A') (ho : Only A w w') (hA : ∀ j, A' j → A j ∨ w.heap.size ≤ j)
    (hok : OkU u') (e1 : u'.Goes = u.Goes) (e2 : lostU u' = lostU u) (e3 : u'.C = u.C) (e4 : u'.P = u.P) : UB w' b room u' p q x A' B := by
  have hb := h.blk.only ho h.na
  refine ⟨by unfold cellsU; rw [e2, e3, e4]; exact hb, h1, by rw [e1]; exact h.goes.only ho (fun j hj e => h.ab j e hj), hok, fun e => ?_, h.nb, fun j hj e => ?_⟩
  · rcases hA b e with k | k
    · exact h.na k
    · have := h.blk.lt; omega
  · rcases hA j hj with k | k
    · exact h.ab j k e
    · have := h.goes.lt j e; omega
theorem UB.toGoes {w w' : World} {b room : Nat} {u u' : Un} {p q x : Value} {A B B' : Nat → Prop} (h : UB w b room u p q x A B) (h1 : Rw w' q room u'.Goes B') (ho : Only B w w') (hB : ∀ j, B' j → B j ∨ w.heap.size ≤ j)
    (hok : OkU u') (e1 : u'.Came = u.Came) (e2 : lostU u' = lostU u) (e3 : u'.C = u.C) (e4 : u'.P = u.P) : UB w' b room u' p q x A B' := by
  have hb := h.blk.only ho h.nb
  refine ⟨by unfold cellsU; rw [e2, e3, e4]; exact hb, by rw [e1]; exact h.came.only ho (fun j hj e => h.ab j hj e), h1, hok, h.na, fun e => ?_, fun j hj e => ?_⟩
  · rcases hB b e with k | k
    · exact h.nb k
    · have := h.blk.lt; omega
  · rcases hB j e with k | k
    · exact h.ab j hj k
    · have := h.came.lt j hj; omega
/-- A cell of its block is written. -/
theorem UB.toCell {w : World} {b room : Nat} {u u' : Un} {p q x : Value} {A B : Nat → Prop} (h : UB w b room u p q x A B) (k : Nat) (v : Value) (hc : (cellsU u p q x).set k v = cellsU u' p q x) (hok : OkU u') (e1 : u'.Came = u.Came) (e2 : u'.Goes = u.Goes) :
    UB (w.setCell ⟨b, k, none⟩ v) b room u' p q x A B := by
  have ho : Only (fun j => j = b) w (w.setCell ⟨b, k, none⟩ v) := (Only.refl (fun j => j = b) w).setCell (p := ⟨b, k, none⟩) rfl v
  refine ⟨by have := h.blk.set k v; rwa [hc] at this, by rw [e1]; exact h.came.only ho (fun j hj e => h.na (by have e : j = b := e; rwa [e] at hj)), by rw [e2]; exact h.goes.only ho (fun j hj e => h.nb (by have e : j = b := e; rwa [e] at hj)), hok, h.na, h.nb, h.ab⟩
/-- None of it. -/
theorem UB.zero (w : World) : UB (w.alloc (.cells (cellsU zeroU (.pointer none) (.pointer none) (.pointer none)).toArray 50)) w.heap.size 0 zeroU (.pointer none) (.pointer none) (.pointer none) (fun _ => False) (fun _ => False) :=
  ⟨Blk.new w _ _, .inr ⟨rfl, rfl, rfl, rfl⟩, .inr ⟨rfl, rfl, rfl, rfl⟩, okU_zero, fun e => e, fun e => e, fun j e => e.elim⟩
end Go.Proofs.Ythdcealhhmfgcaa.Uart
