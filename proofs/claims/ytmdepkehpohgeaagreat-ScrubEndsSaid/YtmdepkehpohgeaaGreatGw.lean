/- A row that grows while something is gone through, in a box: what an append leaves. Good for every stage. -/
import Derived.Test.YtmdepkehpohgeaaGreatFw
import Derived.Test.YtmdepkehpohgeaaGreatOw
import Derived.OwnWalkIn
namespace Go.Proofs.YtmdepkehpohgeaaGreat.Fifo
open Go.RowKit Go.Maps Orow
set_option linter.unusedVariables false

theorem rows_book {C : Nat} {w w' : World} {B n sz : Nat} {e : TypeId} {v : Value} {L : List Value} (h : w.ownsRow B e sz v n L) (hb : Book C w w') : w'.ownsRow B e sz v n L := by
  refine ⟨h.1, ?_⟩
  rcases h.2 with h2 | ⟨g, cap, cur, rfl, hg, hh, r⟩
  · exact .inl h2
  · exact .inr ⟨g, cap, cur, rfl, hg, hb.cells g _ hh rfl, r⟩
structure Grow (T TS : TypeId) (sz : Nat) (X : World) (P : Nat) (v : Value) (n : Nat) (L : List Value) : Prop where
  bx : Blk X P TS [v]
  rw : X.ownsRow (P + 1) T sz v n L
/-- The blocks of such a row. -/
abbrev GB (P : Nat) (v : Value) : Nat → Prop := fun j => j = P ∨ PB v j
theorem Grow.keep {T TS : TypeId} {sz n P : Nat} {X X' : World} {v : Value} {L : List Value} (h : Grow T TS sz X P v n L) (hb : Below X.heap.size X X') : Grow T TS sz X' P v n L := ⟨h.bx.keep hb, own_keep h.rw hb⟩
theorem Grow.book {T TS : TypeId} {sz n P C : Nat} {X X' : World} {v : Value} {L : List Value} (h : Grow T TS sz X P v n L) (hk : Book C X X') : Grow T TS sz X' P v n L := ⟨h.bx.book hk, rows_book h.rw hk⟩
theorem Grow.only {T TS : TypeId} {sz n P : Nat} {S : Nat → Prop} {X X' : World} {v : Value} {L : List Value} (h : Grow T TS sz X P v n L) (ho : Only S X X') (hn : ∀ j, GB P v j → ¬ S j) : Grow T TS sz X' P v n L := by
  obtain ⟨a, c, rfl, -, -⟩ := own_shape h.rw
  exact ⟨h.bx.only ho (hn P (.inl rfl)), own_only h.rw ho (fun j hj => hn j (.inr (pb_ba.2 hj)))⟩
theorem Grow.lt {T TS : TypeId} {sz n P : Nat} {X : World} {v : Value} {L : List Value} (h : Grow T TS sz X P v n L) : ∀ j, GB P v j → P ≤ j ∧ j < X.heap.size := fun j hj => by
  rcases hj with rfl | hj
  · exact ⟨Nat.le_refl _, h.bx.lt⟩
  · have := World.ownsRow.lt h.rw j hj
    omega
theorem Grow.app {T TS : TypeId} {sz n m P : Nat} {X w5 : World} {v v' : Value} {L news : List Value} {o : Obj} (h : Grow T TS sz X P v n L)
    (h1 : w5.ownsRow (P + 1) T sz v' (n + m) (L ++ news)) (h2 : (X.alloc o).grownBy w5 v.ownBlock) (h4 : v'.ownBlock = v.ownBlock ∨ v'.ownBlock = some (X.alloc o).heap.size) :
    (∃ a c, v' = .slice a (n + m) c) ∧ w5.cell? ⟨P, 0, none⟩ = some v ∧ w5.frozen? ⟨P, 0, none⟩ = false ∧ Grow T TS sz (w5.setCell ⟨P, 0, none⟩ v') P v' (n + m) (L ++ news) ∧
    (∀ j, GB P v' j → GB P v j ∨ X.heap.size ≤ j) ∧ Only (GB P v) X (w5.setCell ⟨P, 0, none⟩ v') := by
  have hlt : ∀ j, PB v j → P + 1 ≤ j ∧ j < X.heap.size := h.rw.lt
  have hlt' : ∀ j, PB v' j → P + 1 ≤ j ∧ j < w5.heap.size := h1.lt
  have ho : Only (PB v) X w5 := ((Only.refl (PB v) X).alloc o).grown h2 (fun k e => .inl e)
  have hb : Blk w5 P TS [v] := h.bx.only ho (fun hp => by have := (hlt P hp).1; omega)
  have ho2 : Only (GB P v) X (w5.setCell ⟨P, 0, none⟩ v') := (ho.mono (fun j _ e => .inr e)).setCell (p := ⟨P, 0, none⟩) (.inl rfl) v'
  have hset : Only (fun j => j = P) w5 (w5.setCell ⟨P, 0, none⟩ v') := (Only.refl (fun j => j = P) w5).setCell (p := ⟨P, 0, none⟩) rfl v'
  obtain ⟨a, cap, rfl, -, -⟩ := own_shape h1
  refine ⟨⟨_, _, rfl⟩, hb.at 0 rfl, hb.frozen 0, ⟨hb.set 0 _, own_only h1 hset (fun j hj e => by have := (hlt' j (pb_ba.2 hj)).1; have e : j = P := e; omega)⟩, ?_, ho2⟩
  rintro j (rfl | hj)
  · exact .inl (.inl rfl)
  · unfold PB at hj
    rcases h4 with e | e
    · exact .inl (.inr (show PB v j by unfold PB; rw [← e]; exact hj))
    · rw [e] at hj
      simp at hj
      exact .inr (by omega)
end Go.Proofs.YtmdepkehpohgeaaGreat.Fifo
