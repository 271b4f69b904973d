/- Package mailbox: a mail in a block (a mailbox's, or one that nobody has), over a row that was answered (4 places), or over none (no place). -/
import Derived.Test.YtkcghcoacjpbkaaJa
import Derived.Test.YtkcghcoacjpbkaaOw
import Derived.Test.YtkcghcoacjpbkaaFmL
import Derived.Test.YtkcghcoacjpbkaaFnL
import Derived.Laws.BitsAllLaws
import Derived.LaidEqlPtr
namespace Go.Proofs.Ytkcghcoacjpbkaa.Mbox
open Go.RowKit Go.Maps Go.ChangeShapes Go.WideShapes Go.ChangeAt Fifo Orow Word
set_option linter.unusedVariables false

def I64 (x : Int) : Prop := -9223372036854775808 ≤ x ∧ x ≤ 9223372036854775807
abbrev me (b : Nat) : Value := .pointer (some ⟨b, 0, none⟩)
/-- A row that is one, or none; how many places; what it has; which blocks. -/
def Rw (w : World) (p : Value) (room : Nat) (l : List Int) (O : Nat → Prop) : Prop :=
  (∃ g, p = .pointer (some ⟨g, 0, none⟩) ∧ FL.St w g room (lv l) O) ∨ (p = .pointer none ∧ room = 0 ∧ l = [] ∧ O = fun _ => False)
theorem Rw.only {S O : Nat → Prop} {w w' : World} {p : Value} {room : Nat} {l : List Int} (h : Rw w p room l O) (ho : Only S w w') (hn : ∀ j, O j → ¬ S j) : Rw w' p room l O := by
  rcases h with ⟨g, rfl, h⟩ | h
  · exact .inl ⟨g, rfl, h.only ho hn⟩
  · exact .inr h
theorem Rw.keep {O : Nat → Prop} {w w' : World} {p : Value} {room : Nat} {l : List Int} (h : Rw w p room l O) (hb : Below w.heap.size w w') : Rw w' p room l O :=
  h.only (S := fun _ => False) (Only.of_below hb) (fun _ _ e => e)
theorem Rw.lt {O : Nat → Prop} {w : World} {p : Value} {room : Nat} {l : List Int} (h : Rw w p room l O) : ∀ j, O j → j < w.heap.size := by
  rcases h with ⟨g, rfl, h⟩ | ⟨_, _, _, rfl⟩
  · exact h.lt
  · exact fun j e => e.elim
theorem Rw.le {O : Nat → Prop} {w : World} {p : Value} {room : Nat} {l : List Int} (h : Rw w p room l O) : l.length ≤ room := by
  rcases h with ⟨g, rfl, h⟩ | ⟨_, rfl, rfl, _⟩
  · have := h.le; rwa [lvl] at this
  · exact Nat.le_refl _
theorem Rw.put {O : Nat → Prop} {w : World} {p : Value} {room : Nat} {l : List Int} (h : Rw w p room l O) (h9 : l.length ≤ 1900) (x : Int) (ok : Bool) (l' : List Int) (hok : decide (l.length < room) = ok) (hl' : (if ok then l ++ [x] else l) = l') :
    Calls Try.prog 53 #[p, .int .u32 x] w fun e w' => e = .returned (.bool ok) ∧ ∃ O', Rw w' p room l' O' ∧ Only O w w' ∧ ∀ j, O' j → O j ∨ w.heap.size ≤ j := by
  rcases h with ⟨g, rfl, h⟩ | ⟨rfl, rfl, rfl, rfl⟩
  · refine (FL.Put_st g room (lv l) (lv l') O (.int .u32 x) ok w h (by rw [lvl]; exact h9) ⟨x, rfl⟩ (by rw [lvl]; exact hok) (by rw [← hl']; cases ok <;> simp [lv])).mono ?_
    rintro e w' ⟨rfl, O', h1, h2, h3⟩
    exact ⟨rfl, O', .inl ⟨g, rfl, h1⟩, h2, h3⟩
  · have e : ok = false := by rw [← hok]; rfl
    subst e
    have e : l' = [] := by rw [← hl']; rfl
    subst e
    refine (FL.Put_non _ (.int .u32 x) w (.inl rfl)).mono ?_
    rintro e w' ⟨rfl, hb⟩
    exact ⟨rfl, fun _ => False, .inr ⟨rfl, rfl, rfl, rfl⟩, Only.of_below hb, fun j e => e.elim⟩
def fstX (l : List Int) : Int := l.headD 0
theorem Rw.take {O : Nat → Prop} {w : World} {p : Value} {room : Nat} {l : List Int} (h : Rw w p room l O) :
    Calls Try.prog 52 #[p] w fun e w' => e = .returned (.tuple #[.int .u32 (fstX l), .bool (!l.isEmpty)]) ∧ Rw w' p room l.tail O ∧ Only O w w' := by
  rcases h with ⟨g, rfl, h⟩ | ⟨rfl, rfl, rfl, rfl⟩
  · refine (FL.Take_st g room (lv l) O w h).mono ?_
    rintro e w' ⟨rfl, h1, h2⟩
    cases l with
    | nil => exact ⟨rfl, .inl ⟨g, rfl, h1⟩, h2⟩
    | cons b t => exact ⟨rfl, .inl ⟨g, rfl, h1⟩, h2⟩
  · refine (FL.Take_non _ w (.inl rfl)).mono ?_
    rintro e w' ⟨rfl, hb⟩
    exact ⟨rfl, .inr ⟨rfl, rfl, rfl, rfl⟩, Only.of_below hb⟩
theorem Rw.len {O : Nat → Prop} {w : World} {p : Value} {room : Nat} {l : List Int} (h : Rw w p room l O) :
    Calls Try.prog 37 #[p] w fun e w' => e = .returned (.int .i64 (l.length : Nat)) ∧ Below w.heap.size w w' := by
  rcases h with ⟨g, rfl, h⟩ | ⟨rfl, rfl, rfl, rfl⟩
  · refine (FL.Len_st g room (lv l) O w h).mono ?_
    rintro e w' ⟨rfl, rfl⟩
    exact ⟨by rw [lvl], Below.refl _ _⟩
  · exact FL.Len_non _ w (.inl rfl)
/-- All, asked of a row, or of none. -/
theorem Rw.all {O : Nat → Prop} {w : World} {p : Value} {room : Nat} {l : List Int} (h : Rw w p room l O) :
    Calls Try.prog 36 #[p] w fun e w' => ∃ box, e = .returned (.func (.func 49) #[] #[.pointer (some ⟨box, 0, none⟩)]) ∧ Below w.heap.size w w' ∧
      ∀ m w'', 2 ≤ m → Below w'.heap.size w' w'' → SeqC Fence.wide m Try.prog 49 (fun lp => #[] ++ #[.func (.yield lp) #[] #[]] ++ #[.pointer (some ⟨box, 0, none⟩)]) l.length (FL.els (lv l)) (fun _ => False) w'' := by
  rcases h with ⟨g, rfl, h⟩ | ⟨rfl, rfl, rfl, rfl⟩
  · refine (FL.All_st g room (lv l) O w h).mono ?_
    rintro e w' ⟨box, rfl, _, hb, hs⟩
    rw [lvl] at hs
    exact ⟨box, rfl, hb, hs⟩
  · exact FL.All_non none w (.inl rfl)

abbrev cellsX (u : Bx) (p : Value) (tl : List Value) : List Value := p :: .int .u32 u.C :: .int .u32 u.L :: tl
/-- A mail at the front of block b, of type t; tl stands behind it. -/
structure MB (w : World) (b room : Nat) (t : TypeId) (tl : List Value) (u : Bx) (p : Value) (A : Nat → Prop) : Prop where
  blk : Blk w b t (cellsX u p tl)
  row : Rw w p room u.W A
  ok : OkX u
  na : ¬ A b
/-- The same, with the blocks that are its own. -/
def MW (w : World) (b room : Nat) (t : TypeId) (tl : List Value) (u : Bx) (O : Nat → Prop) : Prop := ∃ p A, MB w b room t tl u p A ∧ ∀ j, O j ↔ (j = b ∨ A j)
theorem MB.only {S : Nat → Prop} {w w' : World} {b room : Nat} {t : TypeId} {tl : List Value} {u : Bx} {p : Value} {A : Nat → Prop} (h : MB w b room t tl u p A) (ho : Only S w w') (h1 : ¬ S b) (h2 : ∀ j, A j → ¬ S j) : MB w' b room t tl u p A :=
  ⟨h.blk.only ho h1, h.row.only ho h2, h.ok, h.na⟩
theorem MB.keep {w w' : World} {b room : Nat} {t : TypeId} {tl : List Value} {u : Bx} {p : Value} {A : Nat → Prop} (h : MB w b room t tl u p A) (hb : Below w.heap.size w w') : MB w' b room t tl u p A :=
  h.only (S := fun _ => False) (Only.of_below hb) (fun e => e) (fun _ _ e => e)
theorem MW.only {S O : Nat → Prop} {w w' : World} {b room : Nat} {t : TypeId} {tl : List Value} {u : Bx} (h : MW w b room t tl u O) (ho : Only S w w') (hn : ∀ j, O j → ¬ S j) : MW w' b room t tl u O := by
  obtain ⟨p, A, h, e⟩ := h
  exact ⟨p, A, h.only ho (hn b ((e b).2 (.inl rfl))) (fun j hj => hn j ((e j).2 (.inr hj))), e⟩
theorem MW.keep {O : Nat → Prop} {w w' : World} {b room : Nat} {t : TypeId} {tl : List Value} {u : Bx} (h : MW w b room t tl u O) (hb : Below w.heap.size w w') : MW w' b room t tl u O :=
  h.only (S := fun _ => False) (Only.of_below hb) (fun _ _ e => e)
theorem MW.lt {O : Nat → Prop} {w : World} {b room : Nat} {t : TypeId} {tl : List Value} {u : Bx} (h : MW w b room t tl u O) : ∀ j, O j → j < w.heap.size := by
  obtain ⟨p, A, h, e⟩ := h
  intro j hj
  rcases (e j).1 hj with rfl | hj
  · exact h.blk.lt
  · exact h.row.lt j hj
theorem MW.ok {O : Nat → Prop} {w : World} {b room : Nat} {t : TypeId} {tl : List Value} {u : Bx} (h : MW w b room t tl u O) : OkX u := by
  obtain ⟨p, A, h, e⟩ := h
  exact h.ok
/-- What a method leaves. -/
def Left (w w' : World) (b room : Nat) (t : TypeId) (tl : List Value) (u : Bx) (O : Nat → Prop) : Prop := ∃ O', MW w' b room t tl u O' ∧ Only O w w' ∧ ∀ j, O' j → O j ∨ w.heap.size ≤ j
/-- Behind another step. -/
theorem Left.trans {w w1 w' : World} {b room : Nat} {t : TypeId} {tl : List Value} {u : Bx} {O : Nat → Prop} (h : Only O w w1) (k : Left w1 w' b room t tl u O) : Left w w' b room t tl u O := by
  obtain ⟨O', k1, k2, k3⟩ := k
  exact ⟨O', k1, h.trans k2, fun j hj => (k3 j hj).imp id (fun e => Nat.le_trans h.size e)⟩
theorem Left.of {w w' : World} {b room : Nat} {t : TypeId} {tl : List Value} {u : Bx} {O : Nat → Prop} (h : MW w' b room t tl u O) (ho : Only O w w') : Left w w' b room t tl u O := ⟨O, h, ho, fun j hj => .inl hj⟩
/-- The row has turned. -/
theorem MB.toRow {w w' : World} {b room : Nat} {t : TypeId} {tl : List Value} {u u' : Bx} {p : Value} {A A' : Nat → Prop} (h : MB w b room t tl u p A) (h1 : Rw w' p room u'.W A') (ho : Only A w w') (hA : ∀ j, A' j → A j ∨ w.heap.size ≤ j)
    (hok : OkX u') (e1 : u'.C = u.C) (e2 : u'.L = u.L) : MB w' b room t tl u' p A' := by
  have hb := h.blk.only ho h.na
  refine ⟨by unfold cellsX; rw [e1, e2]; exact hb, h1, hok, fun e => ?_⟩
  rcases hA b e with k | k
  · exact h.na k
  · have := h.blk.lt; omega
/-- A cell of its block is written. -/
theorem MB.toCell {w : World} {b room : Nat} {t : TypeId} {tl : List Value} {u u' : Bx} {p : Value} {A : Nat → Prop} (h : MB w b room t tl u p A) (k : Nat) (v : Value) (hc : (cellsX u p tl).set k v = cellsX u' p tl) (hok : OkX u') (e1 : u'.W = u.W) :
    MB (w.setCell ⟨b, k, none⟩ v) b room t tl u' p A := by
  have ho : Only (fun j => j = b) w (w.setCell ⟨b, k, none⟩ v) := (Only.refl (fun j => j = b) w).setCell (p := ⟨b, k, none⟩) rfl v
  refine ⟨by have := h.blk.set k v; rwa [hc] at this, by rw [e1]; exact h.row.only ho (fun j hj e => h.na (by have e : j = b := e; rwa [e] at hj)), hok, h.na⟩
/-- The blocks, once the row has turned. -/
theorem own_row {O A A' : Nat → Prop} {b n : Nat} (e : ∀ j, O j ↔ (j = b ∨ A j)) (h : ∀ j, A' j → A j ∨ n ≤ j) : ∀ j, (j = b ∨ A' j) → O j ∨ n ≤ j := fun j hj => by
  rcases hj with rfl | hj
  · exact .inl ((e _).2 (.inl rfl))
  · exact (h j hj).imp (fun k => (e j).2 (.inr k)) id
/-- None of it. -/
theorem MB.zero (w : World) : MB (w.alloc (.cells (cellsX zeroX (.pointer none) []).toArray 44)) w.heap.size 0 44 [] zeroX (.pointer none) (fun _ => False) :=
  ⟨Blk.new w _ _, .inr ⟨rfl, rfl, rfl, rfl⟩, okX_zero, fun e => e⟩
end Go.Proofs.Ytkcghcoacjpbkaa.Mbox
