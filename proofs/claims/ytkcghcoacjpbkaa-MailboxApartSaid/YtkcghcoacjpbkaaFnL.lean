/- Package fifo's rows of uint32, with the blocks that are theirs. -/
import Derived.Test.YtkcghcoacjpbkaaFlL
namespace Go.Proofs.Ytkcghcoacjpbkaa.FL
open Go.RowKit Fifo
set_option linter.unusedVariables false

/-- A row: so much room, these things, these blocks. -/
def St (w : World) (b room : Nat) (l : List Value) (O : Nat → Prop) : Prop := ∃ pv f vs, Fif w b room l pv f vs ∧ O = RB b pv
theorem St.only {S O : Nat → Prop} {w w' : World} {b room : Nat} {l : List Value} (h : St w b room l O) (ho : Only S w w') (hn : ∀ j, O j → ¬ S j) : St w' b room l O := by
  obtain ⟨pv, f, vs, h, rfl⟩ := h
  exact ⟨pv, f, vs, h.only ho (hn b (.inl rfl)) (fun j hj => hn j (.inr hj)), rfl⟩
theorem St.keep {O : Nat → Prop} {w w' : World} {b room : Nat} {l : List Value} (h : St w b room l O) (hb : Below w.heap.size w w') : St w' b room l O := by
  obtain ⟨pv, f, vs, h, rfl⟩ := h
  exact ⟨pv, f, vs, h.keep hb, rfl⟩
theorem St.book {B : Nat} {O : Nat → Prop} {w w' : World} {b room : Nat} {l : List Value} (h : St w b room l O) (hb : Book B w w') : St w' b room l O := by
  obtain ⟨pv, f, vs, h, rfl⟩ := h
  exact ⟨pv, f, vs, h.book hb, rfl⟩
theorem St.lt {O : Nat → Prop} {w : World} {b room : Nat} {l : List Value} (h : St w b room l O) : ∀ j, O j → j < w.heap.size := by
  obtain ⟨pv, f, vs, h, rfl⟩ := h
  exact fun j hj => hj.elim (fun e => e ▸ h.blk.lt) (h.plc.lt j)
theorem St.le {O : Nat → Prop} {w : World} {b room : Nat} {l : List Value} (h : St w b room l O) : l.length ≤ room := by
  obtain ⟨pv, f, vs, h, rfl⟩ := h
  exact h.le
theorem St.elm {O : Nat → Prop} {w : World} {b room : Nat} {l : List Value} (h : St w b room l O) : ∀ v ∈ l, Elm v := by
  obtain ⟨pv, f, vs, h, rfl⟩ := h
  exact h.elm
theorem St.few {O : Nat → Prop} {w : World} {b room : Nat} {l : List Value} (h : St w b room l O) : l.length ≤ 4000 := by
  obtain ⟨pv, f, vs, h, rfl⟩ := h
  have := h.ring.1
  have := h.few
  omega

theorem New_st (room : Nat) (w : World) (h : room < 9223372036854775808) :
    Calls Try.prog 31 #[.int .i64 (room : Nat)] w fun e w' => ∃ b O, e = .returned (.pointer (some ⟨b, 0, none⟩)) ∧ St w' b room [] O ∧ (∀ j, O j → w.heap.size ≤ j) ∧ Below w.heap.size w w' := by
  refine (New_row room w h).mono ?_
  rintro e w' ⟨b, rfl, hb, hf, hbl⟩
  exact ⟨b, _, rfl, ⟨_, _, _, hf, rfl⟩, fun j hj => hj.elim (fun e => e ▸ hb) (fun e => by simp [PB, Value.ownBlock] at e), hbl⟩
theorem Put_st (b room : Nat) (l l' : List Value) (O : Nat → Prop) (x : Value) (ok : Bool) (w : World) (h : St w b room l O) (h9 : l.length ≤ 1900) (hx : Elm x) (hok : decide (l.length < room) = ok) (hl' : (if ok then l ++ [x] else l) = l') :
    Calls Try.prog 53 #[.pointer (some ⟨b, 0, none⟩), x] w fun e w' => e = .returned (.bool ok) ∧
      ∃ O', St w' b room l' O' ∧ Only O w w' ∧ ∀ j, O' j → O j ∨ w.heap.size ≤ j := by
  obtain ⟨pv, f, vs, h, rfl⟩ := h
  refine (Put_row b room f l vs pv x w h h9 hx ok l' hok hl').mono ?_
  rintro e w' ⟨rfl, pv', f', vs', h1, h2, h3⟩
  exact ⟨rfl, _, ⟨_, _, _, h1, rfl⟩, h2, fun j hj => hj.elim (fun e => .inl (.inl e)) (fun e => (h3 j e).imp .inr id)⟩
theorem Take_st (b room : Nat) (l : List Value) (O : Nat → Prop) (w : World) (h : St w b room l O) :
    Calls Try.prog 52 #[.pointer (some ⟨b, 0, none⟩)] w fun e w' => e = .returned (.tuple #[fst l, .bool (!l.isEmpty)]) ∧ St w' b room l.tail O ∧ Only O w w' := by
  obtain ⟨pv, f, vs, h, rfl⟩ := h
  refine (Take_row b room f l vs pv w h).mono ?_
  rintro e w' ⟨rfl, f', vs', h1, h2⟩
  exact ⟨rfl, ⟨_, _, _, h1, rfl⟩, h2⟩
theorem Take_cons (b room : Nat) (x : Value) (l : List Value) (O : Nat → Prop) (w : World) (h : St w b room (x :: l) O) :
    Calls Try.prog 52 #[.pointer (some ⟨b, 0, none⟩)] w fun e w' => e = .returned (.tuple #[x, .bool true]) ∧ St w' b room l O ∧ Only O w w' := Take_st b room (x :: l) O w h
theorem Take_nil (b room : Nat) (O : Nat → Prop) (w : World) (h : St w b room [] O) :
    Calls Try.prog 52 #[.pointer (some ⟨b, 0, none⟩)] w fun e w' => e = .returned (.tuple #[.int .u32 0, .bool false]) ∧ St w' b room [] O ∧ Only O w w' := Take_st b room [] O w h
theorem Len_st (b room : Nat) (l : List Value) (O : Nat → Prop) (w : World) (h : St w b room l O) :
    Calls Try.prog 37 #[.pointer (some ⟨b, 0, none⟩)] w fun e w' => e = .returned (.int .i64 (l.length : Nat)) ∧ w = w' := by
  obtain ⟨pv, f, vs, h, rfl⟩ := h
  exact Len_row b room f l vs pv w h
theorem Copy_st (b room : Nat) (l : List Value) (O : Nat → Prop) (w : World) (h : St w b room l O) :
    Calls Try.prog 35 #[.pointer (some ⟨b, 0, none⟩)] w fun e w' => ∃ c O', e = .returned (.pointer (some ⟨c, 0, none⟩)) ∧ St w' c room l O' ∧ (∀ j, O' j → w.heap.size ≤ j) ∧ Below w.heap.size w w' := by
  obtain ⟨pv, f, vs, h, rfl⟩ := h
  refine (Copy_row b room f l vs pv w h).mono ?_
  rintro e w' ⟨c, pv', rfl, h1, h2, h3, h4⟩
  exact ⟨c, _, rfl, ⟨_, _, _, h3, rfl⟩, fun j hj => hj.elim (fun e => e ▸ h1) (h2 j), h4⟩
/-- All, asked of a row: its function, over a box that is new. -/
theorem All_st (b room : Nat) (l : List Value) (O : Nat → Prop) (w : World) (h : St w b room l O) :
    Calls Try.prog 36 #[.pointer (some ⟨b, 0, none⟩)] w fun e w' => ∃ box, e = .returned (.func (.func 49) #[] #[.pointer (some ⟨box, 0, none⟩)]) ∧ w.heap.size ≤ box ∧ Below w.heap.size w w' ∧
      ∀ m w'', 2 ≤ m → Below w'.heap.size w' w'' → SeqC Fence.wide m Try.prog 49 (fun lp => #[] ++ #[.func (.yield lp) #[] #[]] ++ #[.pointer (some ⟨box, 0, none⟩)]) l.length (els l) (fun _ => False) w'' := by
  obtain ⟨pv, f, vs, h, rfl⟩ := h
  refine (All_any _ w).mono ?_
  rintro e w' ⟨rfl, rfl⟩
  have hb0 := (Below.refl w.heap.size w).alloc (Nat.le_refl _) (.cells #[.pointer (some ⟨b, 0, none⟩)] 42)
  exact ⟨_, rfl, Nat.le_refl _, hb0, fun m w'' hm hb => seq_row m hm _ b room f l vs pv w'' ((Blk.new w _ [_]).keep hb) ((h.keep hb0).keep hb)⟩
end Go.Proofs.Ytkcghcoacjpbkaa.FL
